/- Stamps: Less, Compare, Same, Equal; the reference's Put, Sort. Made by gengb17.py. -/
import Derived.Test.YthbliaohaakbiaaGA
import Derived.Lib.Walk
import Derived.BigQuiet
set_option linter.unusedVariables false
set_option linter.unusedSimpArgs false
set_option maxRecDepth 100000
namespace Go.Proofs.Ythbliaohaakbiaa
open Go.RowKit

def ltP (p q : Sp) : Bool := if p.1 = q.1 then decide (p.2 < q.2) else decide (p.1 < q.1)
theorem ltP_iff (a b : Sp) : ltP a b = true ↔ (a.1 < b.1 ∨ (a.1 = b.1 ∧ a.2 < b.2)) := by
  unfold ltP
  by_cases h : a.1 = b.1
  · rw [if_pos h]; simp [h]
  · rw [if_neg h]; simp [h]
theorem ltP_irr (a : Sp) : ltP a a = false := by
  cases h : ltP a a with
  | false => rfl
  | true => rw [ltP_iff] at h; omega
theorem ltP_tr {a b c : Sp} (h : ltP a b = true) (k : ltP b c = true) : ltP a c = true := by
  rw [ltP_iff] at *; omega
theorem ltP_tot {a b : Sp} (h : ltP a b = false) (h2 : ltP b a = false) : a = b := by
  have h : ¬ (a.1 < b.1 ∨ (a.1 = b.1 ∧ a.2 < b.2)) := fun k => by rw [← ltP_iff] at k; rw [k] at h; cases h
  have h2 : ¬ (b.1 < a.1 ∨ (b.1 = a.1 ∧ b.2 < a.2)) := fun k => by rw [← ltP_iff] at k; rw [k] at h2; cases h2
  exact Prod.ext (by omega) (by omega)
theorem ltP_not {a b : Sp} (h : ltP a b = true) : ltP b a = false := by
  cases h2 : ltP b a with
  | false => rfl
  | true => have := ltP_tr h h2; rw [ltP_irr] at this; cases this
theorem below_drewN (w : World) : ∀ n, Below w.heap.size w (w.drewN n) := fun n => ⟨rfl, rfl, rfl, Nat.le_refl _, fun _ _ => rfl⟩
set_option maxHeartbeats 800000 in
theorem rless_any (w : World) (p q : Sp) : Calls Try.prog 37 #[.agg #[.int .i64 p.1, .int .i64 p.2], .agg #[.int .i64 q.1, .int .i64 q.2]] w fun e w' => e = .returned (.bool (ltP p q)) ∧ Below w.heap.size w w' := by
  obtain ⟨a, b⟩ := p
  obtain ⟨c, d⟩ := q
  have BB := Lib.hid ((vstep w (.cells #[.int .i64 a, .int .i64 b] 39)).trans ((vstep (w.alloc (.cells #[.int .i64 a, .int .i64 b] 39)) (.cells #[.int .i64 c, .int .i64 d] 39)).mono (vstep w _).size))
  unfold ltP
  dsimp only
  by_cases h : a = c
  · rw [if_pos h]
    have t1 : (a != c) = false := by simp [h]
    clear h
    go_enter Try.func37, Try.ntmps37
    go_wp2
    go_returns
    exact ⟨rfl, BB.out⟩
  · rw [if_neg h]
    have t1 : (a != c) = true := by simp [h]
    clear h
    go_enter Try.func37, Try.ntmps37
    go_wp2
    go_returns
    exact ⟨rfl, BB.out⟩
theorem list_ext_get {α : Type} {l m : List α} (hl : l.length = m.length) (h : ∀ j : Nat, j < l.length → l[j]? = m[j]?) : l = m := by
  apply List.ext_getElem?
  intro j
  by_cases hj : j < l.length
  · exact h j hj
  · rw [List.getElem?_eq_none (by omega), List.getElem?_eq_none (by omega)]
theorem no2 {a b x y : Int} (h : ¬ (a = x ∧ b = y)) : (a == x) = false ∨ ((a == x) = true ∧ (b == y) = false) := by
  by_cases e : a = x
  · exact .inr ⟨by simpa using e, by simpa using fun q => h ⟨e, q⟩⟩
  · exact .inl (by simpa using e)
set_option maxHeartbeats 3200000 in
theorem rsame_any (w : World) (v1 v2 : Value) (l m : List Sp) (h1 : LiesK encS 2 w v1 l) (h2 : LiesK encS 2 w v2 m) :
    Calls Try.prog 18 #[v1, v2] w fun e w' => e = .returned (.bool (decide (l = m))) ∧ Below w.heap.size w w' := by
  have hl1 := h1.len
  have hl2 := h2.len
  have H1 := Lib.hid h1
  have H2 := Lib.hid h2
  obtain ⟨a1, c1, rfl⟩ := h1.shape
  obtain ⟨a2, c2, rfl⟩ := h2.shape
  clear h1 h2
  by_cases hne : l.length = m.length
  · have HN := Lib.hid hne
    have t0 : ((l.length : Int) != (m.length : Int)) = false := by simp [hne]
    go_enter Try.func18, Try.ntmps18
    clear hne
    go_wp2
    clear t0
    go_loopw [5] (fun kv wr => ∃ i : Nat, kv = .int .i64 i ∧ i ≤ l.length ∧ Hid (∀ j : Nat, j < i → l[j]? = m[j]?) ∧ ∃ n, wr = w.drewN n) (fun kv _ => l.length - (intOf kv).toNat)
    case atStart => exact ⟨0, rfl, Nat.zero_le _, Lib.hid (fun j h => absurd h (Nat.not_lt_zero _)), 0, rfl⟩
    case round =>
      obtain ⟨i, rfl, hi, hJ, n, rfl⟩ := hrel
      by_cases hlt : i < l.length
      · obtain ⟨k, o, p, rfl, hp, hg, hc⟩ := H1.out.at' hlt
        have hmlt : i < m.length := by have := HN.out; omega
        obtain ⟨k', o', p', rfl, hp', hg', hc'⟩ := H2.out.at' hmlt
        have d0 := hc 0 _ rfl
        have d1 := hc 1 _ rfl
        have e0 := hc' 0 _ rfl
        have e1 := hc' 1 _ rfl
        rw [Nat.add_zero] at d0 e0
        clear hg hg' hc hc'
        obtain ⟨p1, p2⟩ := p
        obtain ⟨q1, q2⟩ := p'
        dsimp only at d0 d1 e0 e1
        by_cases hpp : p1 = q1 ∧ p2 = q2
        · obtain ⟨rfl, rfl⟩ := hpp
          have HJ2 := Lib.hid (show ∀ j : Nat, j < i + 1 → l[j]? = m[j]? from fun j hj => by
            by_cases e : j = i
            · subst e; rw [hp, hp']
            · exact hJ.out j (by omega))
          clear hp hp' hJ
          go_wp2
          go_quiet (fail)
          go_wp2
          go_roundw
          case rel => exact ⟨i + 1, by go_num, by omega, HJ2, _, rfl⟩
          case measure => simp [intOf]; omega
        · have HE := Lib.hid (show decide (l = m) = false from decide_eq_false (fun e => hpp (by subst e; rw [hp] at hp'; injection hp' with hp'; injection hp' with a b; exact ⟨a, b⟩)))
          clear hp hp' hJ
          rcases no2 hpp with x0 | ⟨x0, x1⟩
          all_goals
            clear hpp
            go_wp2
            go_quiet (fail)
            go_wp2
            go_returns
            exact ⟨ret_b' HE.out, by first | exact below_drewN _ _ | exact (below_drewN w n).trans ((below_drewN _ _).mono (below_drewN w n).size)⟩
      · have HE := Lib.hid (show decide (l = m) = true from decide_eq_true (list_ext_get HN.out (fun j hj => hJ.out j (by omega))))
        clear hJ
        go_wp2
        go_returns
        exact ⟨ret_b' HE.out, by first | exact below_drewN _ _ | exact (below_drewN w n).trans ((below_drewN _ _).mono (below_drewN w n).size)⟩
  · have HE := Lib.hid (show decide (l = m) = false from decide_eq_false (fun e => hne (by rw [e])))
    have t0 : ((l.length : Int) != (m.length : Int)) = true := by simp; omega
    clear hne
    go_enter Try.func18, Try.ntmps18
    go_wp2
    go_returns
    exact ⟨ret_b' HE.out, Below.refl _ _⟩
set_option maxHeartbeats 3200000 in
theorem equal_any (w : World) (v1 v2 : Value) (l m : List Sp) (h1 : LiesK encS 2 w v1 l) (h2 : LiesK encS 2 w v2 m) :
    Calls Try.prog 38 #[v1, v2] w fun e w' => e = .returned (.bool (decide (l = m))) ∧ Below w.heap.size w w' := by
  have hl1 := h1.len
  have hl2 := h2.len
  have H1 := Lib.hid h1
  have H2 := Lib.hid h2
  obtain ⟨a1, c1, rfl⟩ := h1.shape
  obtain ⟨a2, c2, rfl⟩ := h2.shape
  clear h1 h2
  by_cases hne : l.length = m.length
  · have HN := Lib.hid hne
    have t0 : ((l.length : Int) != (m.length : Int)) = false := by simp [hne]
    go_enter Try.func38, Try.ntmps38
    clear hne
    go_wp2
    clear t0
    go_loopw [13] (fun kv wr => ∃ i : Nat, kv = .int .i64 i ∧ i ≤ l.length ∧ Hid (∀ j : Nat, j < i → l[j]? = m[j]?) ∧ ∃ n, wr = w.drewN n) (fun kv _ => l.length - (intOf kv).toNat)
    case atStart => exact ⟨0, rfl, Nat.zero_le _, Lib.hid (fun j h => absurd h (Nat.not_lt_zero _)), 0, rfl⟩
    case round =>
      obtain ⟨i, rfl, hi, hJ, n, rfl⟩ := hrel
      by_cases hlt : i < l.length
      · obtain ⟨k, o, p, rfl, hp, hg, hc⟩ := H1.out.at' hlt
        have hmlt : i < m.length := by have := HN.out; omega
        obtain ⟨k', o', p', rfl, hp', hg', hc'⟩ := H2.out.at' hmlt
        have d0 := hc 0 _ rfl
        have d1 := hc 1 _ rfl
        have e0 := hc' 0 _ rfl
        have e1 := hc' 1 _ rfl
        rw [Nat.add_zero] at d0 e0
        clear hg hg' hc hc'
        obtain ⟨p1, p2⟩ := p
        obtain ⟨q1, q2⟩ := p'
        dsimp only at d0 d1 e0 e1
        by_cases hpp : p1 = q1 ∧ p2 = q2
        · obtain ⟨rfl, rfl⟩ := hpp
          have HJ2 := Lib.hid (show ∀ j : Nat, j < i + 1 → l[j]? = m[j]? from fun j hj => by
            by_cases e : j = i
            · subst e; rw [hp, hp']
            · exact hJ.out j (by omega))
          clear hp hp' hJ
          go_wp2
          go_quiet (fail)
          go_wp2
          go_roundw
          case rel => exact ⟨i + 1, by go_num, by omega, HJ2, _, rfl⟩
          case measure => simp [intOf]; omega
        · have HE := Lib.hid (show decide (l = m) = false from decide_eq_false (fun e => hpp (by subst e; rw [hp] at hp'; injection hp' with hp'; injection hp' with a b; exact ⟨a, b⟩)))
          clear hp hp' hJ
          rcases no2 hpp with x0 | ⟨x0, x1⟩
          all_goals
            clear hpp
            go_wp2
            go_quiet (fail)
            go_wp2
            go_returns
            exact ⟨ret_b' HE.out, by first | exact below_drewN _ _ | exact (below_drewN w n).trans ((below_drewN _ _).mono (below_drewN w n).size)⟩
      · have HE := Lib.hid (show decide (l = m) = true from decide_eq_true (list_ext_get HN.out (fun j hj => hJ.out j (by omega))))
        clear hJ
        go_wp2
        go_returns
        exact ⟨ret_b' HE.out, by first | exact below_drewN _ _ | exact (below_drewN w n).trans ((below_drewN _ _).mono (below_drewN w n).size)⟩
  · have HE := Lib.hid (show decide (l = m) = false from decide_eq_false (fun e => hne (by rw [e])))
    have t0 : ((l.length : Int) != (m.length : Int)) = true := by simp; omega
    clear hne
    go_enter Try.func38, Try.ntmps38
    go_wp2
    go_returns
    exact ⟨ret_b' HE.out, Below.refl _ _⟩
/-- The reference's Put. -/
def putF : Bool → List Sp → Sp → List Sp
  | d, [], s => if d then [] else [s]
  | d, x :: r, s => (if !d && !(ltP x s) then [s] else []) ++ (if x ≠ s then [x] else []) ++ putF (d || !(ltP x s)) r s
def sortF (l : List Sp) : List Sp := l.foldl (fun acc x => putF false acc x) []
theorem putF_true (l : List Sp) (s : Sp) (d : Bool) (x : Sp) (r : List Sp) (h : l = x :: r) (hd : d = true) : putF d l s = (if x ≠ s then [x] else []) ++ putF true r s := by
  subst h hd
  rfl
theorem putF_cons (d : Bool) (x : Sp) (r : List Sp) (s : Sp) : putF d (x :: r) s = (if !d && !(ltP x s) then [s] else []) ++ (if x ≠ s then [x] else []) ++ putF (d || !(ltP x s)) r s := rfl
theorem sort_snoc (l : List Sp) (p : Sp) : sortF (l ++ [p]) = putF false (sortF l) p := by unfold sortF; rw [List.foldl_append]; rfl
theorem put_len : ∀ (l : List Sp) (d : Bool) (s : Sp), (putF d l s).length ≤ 2 * l.length + 1
  | [], d, s => by cases d <;> simp [putF]
  | x :: r, d, s => by
    have ih := put_len r (d || !(ltP x s)) s
    unfold putF
    rw [List.length_append, List.length_append, List.length_cons]
    have h1 : (if (!d && !(ltP x s)) = true then [s] else []).length ≤ 1 := by split <;> simp
    have h2 : (if x ≠ s then [x] else []).length ≤ 1 := by split <;> simp
    omega
set_option maxHeartbeats 12800000 in
theorem rput_any (w : World) (v : Value) (l : List Sp) (s1 s2 : Int) (h : LiesK encS 2 w v l) (hl : l.length ≤ 1000) :
    Calls Try.prog 58 #[v, .agg #[.int .i64 s1, .int .i64 s2]] w fun e w' => ∃ r, e = .returned r ∧ w'.ownsRow w.heap.size 39 2 r (putF false l (s1, s2)).length ((putF false l (s1, s2)).flatMap encS) ∧ Below w.heap.size w w' := by
  obtain ⟨i0, hi9, hz0, hz1, hz2⟩ := info_parts info39
  have B := Lib.hid (vstep w (.cells #[.int .i64 s1, .int .i64 s2] 39))
  have L := Lib.hid (h.step B.out)
  have S0 := heap_alloc_new w (.cells #[.int .i64 s1, .int .i64 s2] 39)
  obtain ⟨W0, hW0⟩ : ∃ y, w.alloc (.cells #[.int .i64 s1, .int .i64 s2] 39) = y := ⟨_, rfl⟩
  rw [hW0] at B L S0
  have HW := Lib.hid hW0
  have SF := Lib.hid (fun W (hb : Below W0.heap.size W0 W) => show W.cell? ⟨w.heap.size, 0, none⟩ = some (.int .i64 s1) ∧ W.cell? ⟨w.heap.size, 1, none⟩ = some (.int .i64 s2) from by
    have := (hb.block _ (lt_of_block S0)).trans S0
    exact ⟨by rw [cell_of_row _ _ _ _ _ _ this]; rfl, by rw [cell_of_row _ _ _ _ _ _ this]; rfl⟩)
  obtain ⟨ao, cap, rfl⟩ := h.shape
  clear hW0 h S0
  go_enter Try.func58, Try.ntmps58
  go_upto_region 1 with (fail)
  rw [HW.out]
  go_wp2_with fail
  go_loopw [5, 6, 7] (fun ov dv kv wr => ∃ (i : Nat) (d : Bool) (m : List Sp), kv = .int .i64 i ∧ i ≤ l.length ∧ dv = .bool d ∧ m.length ≤ 2 * i ∧ Hid (wr.ownsRow W0.heap.size 39 2 ov m.length (m.flatMap encS) ∧ Below W0.heap.size W0 wr ∧ putF false l (s1, s2) = m ++ putF d (l.drop i) (s1, s2))) (fun _ _ kv _ => l.length - (intOf kv).toNat)
  case atStart => exact ⟨0, false, [], rfl, Nat.zero_le _, rfl, Nat.zero_le _, Lib.hid ⟨World.ownsRow_nil _ _ _ _, Below.refl _ _, rfl⟩⟩
  case round =>
    obtain ⟨i, d, m, rfl, hi, rfl, hm, hK⟩ := hrel
    obtain ⟨oa, oc, rfl⟩ := own_shapeK hK.out.1
    have O0 := Lib.hid hK.out.1
    have K0 := Lib.hid hK.out.2.1
    have EQ := Lib.hid hK.out.2.2
    have LN := Lib.hid (show m.length ≤ 2000 from by omega)
    clear hK
    by_cases hlt : i < l.length
    · obtain ⟨g, o, y, rfl, hy, hg, a0, a1⟩ := L.out.st hlt
      obtain ⟨y1, y2⟩ := y
      have AF := Lib.hid (fun W (hb : Below W0.heap.size W0 W) => (show W.cell? ⟨g, o + i * 2, none⟩ = some (.int .i64 y1) ∧ W.cell? ⟨g, o + i * 2 + 1, none⟩ = some (.int .i64 y2) from ⟨(hb.cell (p := ⟨g, o + i * 2, none⟩) hg).trans a0, (hb.cell (p := ⟨g, o + i * 2 + 1, none⟩) hg).trans a1⟩))
      have hdr : l.drop i = (y1, y2) :: l.drop (i + 1) := by
        rw [← (List.getElem?_eq_some_iff.1 hy).2]; exact List.drop_eq_getElem_cons hlt
      rw [hdr] at EQ
      have LS := Lib.hid (fun z : Later wr => rless_any z.w (y1, y2) (s1, s2))
      dsimp only at LS
      have IRR := Lib.hid (show y1 = s1 ∧ y2 = s2 → ltP (y1, y2) (s1, s2) = false from by rintro ⟨rfl, rfl⟩; exact ltP_irr _)
      have HS : (y1 = s1 ∧ y2 = s2) ∨ (((y1 == s1) = false ∨ ((y1 == s1) = true ∧ (y2 == s2) = false)) ∧ (y1, y2) ≠ (s1, s2)) := by
        by_cases q : y1 = s1 ∧ y2 = s2
        · exact .inl q
        · exact .inr ⟨no2 q, fun e => q (by injection e with a b; exact ⟨a, b⟩)⟩
      clear a0 a1 hg hy hdr
      generalize wr = w0 at *
      cases d with
      | true =>
        have HLT := Lib.hid (True.intro)
        clear IRR
        generalize ltP (y1, y2) (s1, s2) = lt0 at *
        have EQ := Lib.hid (show putF false l (s1, s2) = m ++ ((if (y1, y2) ≠ (s1, s2) then [(y1, y2)] else []) ++ putF true (l.drop (i + 1)) (s1, s2)) from EQ.out)
        rcases HS with ⟨rfl, rfl⟩ | ⟨hs, hne⟩
        · have EQ := Lib.hid (show putF false l (y1, y2) = m ++ (([] : List Sp) ++ putF true (l.drop (i + 1)) (y1, y2)) from by have e := EQ.out; simpa using e)
          go_upto_region 6 with (fail)
          have l0 := fun z : Later w0 => (AF.out z.w (K0.out.trans (z.below.mono K0.out.size))).1
          have l1 := fun z : Later w0 => (AF.out z.w (K0.out.trans (z.below.mono K0.out.size))).2
          have m0 := fun z : Later w0 => (SF.out z.w (K0.out.trans (z.below.mono K0.out.size))).1
          have m1 := fun z : Later w0 => (SF.out z.w (K0.out.trans (z.below.mono K0.out.size))).2
          refine wp_region_later (by kernel_rfl) (by kernel_rfl) ?_
          repeat (go_big_quiet_step (first | (go_at_call 37; with_reducible exact later_call (LS.out _))))
          refine wpQuiet_nil ?_
          rintro _ ⟨xl1, rfl⟩
          have K1 := Lib.hid (K0.out.trans (xl1.below.mono K0.out.size))
          have O1 := Lib.hid (own_belowK O0.out xl1.below)
          generalize xl1.w = w1 at *
          clear l0 l1 m0 m1
          go_upto_region 9 with (fail)
          have r0 := fun z : Later w1 => (AF.out z.w (K1.out.trans (z.below.mono K1.out.size))).1
          have r1 := fun z : Later w1 => (AF.out z.w (K1.out.trans (z.below.mono K1.out.size))).2
          have q0 := fun z : Later w1 => (SF.out z.w (K1.out.trans (z.below.mono K1.out.size))).1
          have q1 := fun z : Later w1 => (SF.out z.w (K1.out.trans (z.below.mono K1.out.size))).2
          refine wp_region_later (by kernel_rfl) (by kernel_rfl) ?_
          repeat (go_big_quiet_step (fail))
          refine wpQuiet_nil ?_
          rintro _ ⟨xl3, rfl⟩
          have K3 := Lib.hid (K1.out.trans (xl3.below.mono K1.out.size))
          have O3 := Lib.hid (own_belowK O1.out xl3.below)
          generalize xl3.w = w3 at *
          clear r0 r1 q0 q1
          have EN := Lib.hid (show putF false l (y1, y2) = m ++ putF true (l.drop (i + 1)) (y1, y2) from by simpa [List.append_assoc] using EQ.out)
          go_wp2
          go_roundw
          case rel => exact ⟨i + 1, true, m, by go_num, by omega, rfl, by omega, Lib.hid ⟨O3.out, K3.out, EN.out⟩⟩
          case measure => simp [intOf]; omega
        · have EQ := Lib.hid (show putF false l (s1, s2) = m ++ ([(y1, y2)] ++ putF true (l.drop (i + 1)) (s1, s2)) from by have e := EQ.out; rw [if_pos hne] at e; simpa using e)
          clear hne
          rcases hs with t1 | ⟨t1, t2⟩
          all_goals
            go_upto_region 6 with (fail)
            have l0 := fun z : Later w0 => (AF.out z.w (K0.out.trans (z.below.mono K0.out.size))).1
            have l1 := fun z : Later w0 => (AF.out z.w (K0.out.trans (z.below.mono K0.out.size))).2
            have m0 := fun z : Later w0 => (SF.out z.w (K0.out.trans (z.below.mono K0.out.size))).1
            have m1 := fun z : Later w0 => (SF.out z.w (K0.out.trans (z.below.mono K0.out.size))).2
            refine wp_region_later (by kernel_rfl) (by kernel_rfl) ?_
            repeat (go_big_quiet_step (first | (go_at_call 37; with_reducible exact later_call (LS.out _))))
            refine wpQuiet_nil ?_
            rintro _ ⟨xl1, rfl⟩
            have K1 := Lib.hid (K0.out.trans (xl1.below.mono K0.out.size))
            have O1 := Lib.hid (own_belowK O0.out xl1.below)
            generalize xl1.w = w1 at *
            clear l0 l1 m0 m1
            go_upto_region 9 with (fail)
            have r0 := fun z : Later w1 => (AF.out z.w (K1.out.trans (z.below.mono K1.out.size))).1
            have r1 := fun z : Later w1 => (AF.out z.w (K1.out.trans (z.below.mono K1.out.size))).2
            have q0 := fun z : Later w1 => (SF.out z.w (K1.out.trans (z.below.mono K1.out.size))).1
            have q1 := fun z : Later w1 => (SF.out z.w (K1.out.trans (z.below.mono K1.out.size))).2
            refine wp_region_later (by kernel_rfl) (by kernel_rfl) ?_
            repeat (go_big_quiet_step (fail))
            refine wpQuiet_nil ?_
            rintro _ ⟨xl3, rfl⟩
            have K3 := Lib.hid (K1.out.trans (xl3.below.mono K1.out.size))
            have O3 := Lib.hid (own_belowK O1.out xl3.below)
            generalize xl3.w = w3 at *
            clear r0 r1 q0 q1
            obtain ⟨e1, e2⟩ := AF.out _ K3.out
            obtain ⟨ms4, hms4⟩ : ∃ ms, (m) ++ [(y1, y2)] = ms := ⟨_, rfl⟩
            have MS4 := Lib.hid hms4
            clear hms4
            have OX4 := Lib.hid (own_belowK O3.out (vstep w3 (.cells #[.int .i64 y1, .int .i64 y2] 39)))
            have HX4 := Lib.hid (show (w3.alloc (.cells #[.int .i64 y1, .int .i64 y2] 39)).heap[w3.heap.size]? = some (.cells (encS (y1, y2)).toArray 39 (0, 0)) from heap_alloc_new w3 _)
            have QX4 := Lib.hid (And.intro (show (m).length + 1 ≤ maxLen from by have := LN.out; unfold maxLen; omega) (And.intro (show ((m).length + 1) * 16 ≤ 140737488355328 from by have := LN.out; omega) (show W0.heap.size ≤ (w3.alloc (.cells #[.int .i64 y1, .int .i64 y2] 39)).heap.size from by have := K3.out.size; simp; omega)))
            go_wp2_with (at_builtin; refine wpList_pushK rfl (.tmp 35) (.tmp 40) 30 rfl encS_len (by decide) encS_one (W0.heap.size) 39 i0 (.agg #[.int .i64 0, .int .i64 0]) 16 Try.u30 hi9 hz0 hz1 hz2 rfl _ (m) (y1, y2) w3.heap.size rfl rfl HX4.out OX4.out QX4.out.1 QX4.out.2.1 QX4.out.2.2 ?_; intro v4 w4 hown hgr; rw [MS4.out] at hown; obtain ⟨va4, vc4, rfl⟩ := own_shapeK hown; have O4 := Lib.hid hown; have K4 := Lib.hid (push_okG K3.out O3.out (by have := K3.out.size; omega) hgr); clear hown hgr)
            clear e1 e2
            have EN := Lib.hid (show putF false l (s1, s2) = ms4 ++ putF true (l.drop (i + 1)) (s1, s2) from by rw [← MS4.out]; simpa [List.append_assoc] using EQ.out)
            go_wp2
            go_roundw
            case rel => exact ⟨i + 1, true, ms4, by go_num, by omega, rfl, by have e4 := congrArg List.length MS4.out; rw [List.length_append] at e4; simp only [List.length_cons, List.length_nil] at e4; omega, Lib.hid ⟨O4.out, K4.out, EN.out⟩⟩
            case measure => simp [intOf]; omega
      | false =>
        cases hlt0 : ltP (y1, y2) (s1, s2) with
        | true =>
          have HLT := Lib.hid hlt0
          rw [hlt0] at LS
          clear hlt0
          rcases HS with ⟨e1, e2⟩ | ⟨hs, hne⟩
          · have := IRR.out ⟨e1, e2⟩; rw [HLT.out] at this; cases this
          · have EQ := Lib.hid (show putF false l (s1, s2) = m ++ ([(y1, y2)] ++ putF false (l.drop (i + 1)) (s1, s2)) from by have e := EQ.out; rw [putF_cons] at e; simpa [HLT.out, hne] using e)
            clear hne
            rcases hs with t1 | ⟨t1, t2⟩
            all_goals
              go_upto_region 6 with (fail)
              have l0 := fun z : Later w0 => (AF.out z.w (K0.out.trans (z.below.mono K0.out.size))).1
              have l1 := fun z : Later w0 => (AF.out z.w (K0.out.trans (z.below.mono K0.out.size))).2
              have m0 := fun z : Later w0 => (SF.out z.w (K0.out.trans (z.below.mono K0.out.size))).1
              have m1 := fun z : Later w0 => (SF.out z.w (K0.out.trans (z.below.mono K0.out.size))).2
              refine wp_region_later (by kernel_rfl) (by kernel_rfl) ?_
              repeat (go_big_quiet_step (first | (go_at_call 37; with_reducible exact later_call (LS.out _))))
              refine wpQuiet_nil ?_
              rintro _ ⟨xl1, rfl⟩
              have K1 := Lib.hid (K0.out.trans (xl1.below.mono K0.out.size))
              have O1 := Lib.hid (own_belowK O0.out xl1.below)
              generalize xl1.w = w1 at *
              clear l0 l1 m0 m1
              go_upto_region 9 with (fail)
              have r0 := fun z : Later w1 => (AF.out z.w (K1.out.trans (z.below.mono K1.out.size))).1
              have r1 := fun z : Later w1 => (AF.out z.w (K1.out.trans (z.below.mono K1.out.size))).2
              have q0 := fun z : Later w1 => (SF.out z.w (K1.out.trans (z.below.mono K1.out.size))).1
              have q1 := fun z : Later w1 => (SF.out z.w (K1.out.trans (z.below.mono K1.out.size))).2
              refine wp_region_later (by kernel_rfl) (by kernel_rfl) ?_
              repeat (go_big_quiet_step (fail))
              refine wpQuiet_nil ?_
              rintro _ ⟨xl3, rfl⟩
              have K3 := Lib.hid (K1.out.trans (xl3.below.mono K1.out.size))
              have O3 := Lib.hid (own_belowK O1.out xl3.below)
              generalize xl3.w = w3 at *
              clear r0 r1 q0 q1
              obtain ⟨e1, e2⟩ := AF.out _ K3.out
              obtain ⟨ms4, hms4⟩ : ∃ ms, (m) ++ [(y1, y2)] = ms := ⟨_, rfl⟩
              have MS4 := Lib.hid hms4
              clear hms4
              have OX4 := Lib.hid (own_belowK O3.out (vstep w3 (.cells #[.int .i64 y1, .int .i64 y2] 39)))
              have HX4 := Lib.hid (show (w3.alloc (.cells #[.int .i64 y1, .int .i64 y2] 39)).heap[w3.heap.size]? = some (.cells (encS (y1, y2)).toArray 39 (0, 0)) from heap_alloc_new w3 _)
              have QX4 := Lib.hid (And.intro (show (m).length + 1 ≤ maxLen from by have := LN.out; unfold maxLen; omega) (And.intro (show ((m).length + 1) * 16 ≤ 140737488355328 from by have := LN.out; omega) (show W0.heap.size ≤ (w3.alloc (.cells #[.int .i64 y1, .int .i64 y2] 39)).heap.size from by have := K3.out.size; simp; omega)))
              go_wp2_with (at_builtin; refine wpList_pushK rfl (.tmp 35) (.tmp 40) 30 rfl encS_len (by decide) encS_one (W0.heap.size) 39 i0 (.agg #[.int .i64 0, .int .i64 0]) 16 Try.u30 hi9 hz0 hz1 hz2 rfl _ (m) (y1, y2) w3.heap.size rfl rfl HX4.out OX4.out QX4.out.1 QX4.out.2.1 QX4.out.2.2 ?_; intro v4 w4 hown hgr; rw [MS4.out] at hown; obtain ⟨va4, vc4, rfl⟩ := own_shapeK hown; have O4 := Lib.hid hown; have K4 := Lib.hid (push_okG K3.out O3.out (by have := K3.out.size; omega) hgr); clear hown hgr)
              clear e1 e2
              have EN := Lib.hid (show putF false l (s1, s2) = ms4 ++ putF false (l.drop (i + 1)) (s1, s2) from by rw [← MS4.out]; simpa [List.append_assoc] using EQ.out)
              go_wp2
              go_roundw
              case rel => exact ⟨i + 1, false, ms4, by go_num, by omega, rfl, by have e4 := congrArg List.length MS4.out; rw [List.length_append] at e4; simp only [List.length_cons, List.length_nil] at e4; omega, Lib.hid ⟨O4.out, K4.out, EN.out⟩⟩
              case measure => simp [intOf]; omega
        | false =>
          have HLT := Lib.hid hlt0
          rw [hlt0] at LS
          clear hlt0
          rcases HS with ⟨rfl, rfl⟩ | ⟨hs, hne⟩
          · have EQ := Lib.hid (show putF false l (y1, y2) = m ++ ([(y1, y2)] ++ putF true (l.drop (i + 1)) (y1, y2)) from by have e := EQ.out; rw [putF_cons] at e; simpa [HLT.out] using e)
            go_upto_region 6 with (fail)
            have l0 := fun z : Later w0 => (AF.out z.w (K0.out.trans (z.below.mono K0.out.size))).1
            have l1 := fun z : Later w0 => (AF.out z.w (K0.out.trans (z.below.mono K0.out.size))).2
            have m0 := fun z : Later w0 => (SF.out z.w (K0.out.trans (z.below.mono K0.out.size))).1
            have m1 := fun z : Later w0 => (SF.out z.w (K0.out.trans (z.below.mono K0.out.size))).2
            refine wp_region_later (by kernel_rfl) (by kernel_rfl) ?_
            repeat (go_big_quiet_step (first | (go_at_call 37; with_reducible exact later_call (LS.out _))))
            refine wpQuiet_nil ?_
            rintro _ ⟨xl1, rfl⟩
            have K1 := Lib.hid (K0.out.trans (xl1.below.mono K0.out.size))
            have O1 := Lib.hid (own_belowK O0.out xl1.below)
            generalize xl1.w = w1 at *
            clear l0 l1 m0 m1
            obtain ⟨e1, e2⟩ := SF.out _ K1.out
            obtain ⟨ms2, hms2⟩ : ∃ ms, (m) ++ [(y1, y2)] = ms := ⟨_, rfl⟩
            have MS2 := Lib.hid hms2
            clear hms2
            have OX2 := Lib.hid (own_belowK O1.out (vstep w1 (.cells #[.int .i64 y1, .int .i64 y2] 39)))
            have HX2 := Lib.hid (show (w1.alloc (.cells #[.int .i64 y1, .int .i64 y2] 39)).heap[w1.heap.size]? = some (.cells (encS (y1, y2)).toArray 39 (0, 0)) from heap_alloc_new w1 _)
            have QX2 := Lib.hid (And.intro (show (m).length + 1 ≤ maxLen from by have := LN.out; unfold maxLen; omega) (And.intro (show ((m).length + 1) * 16 ≤ 140737488355328 from by have := LN.out; omega) (show W0.heap.size ≤ (w1.alloc (.cells #[.int .i64 y1, .int .i64 y2] 39)).heap.size from by have := K1.out.size; simp; omega)))
            go_upto_region 9 with (at_builtin; refine wpList_pushK rfl (.tmp 25) (.tmp 27) 30 rfl encS_len (by decide) encS_one (W0.heap.size) 39 i0 (.agg #[.int .i64 0, .int .i64 0]) 16 Try.u30 hi9 hz0 hz1 hz2 rfl _ (m) (y1, y2) w1.heap.size rfl rfl HX2.out OX2.out QX2.out.1 QX2.out.2.1 QX2.out.2.2 ?_; intro v2 w2 hown hgr; rw [MS2.out] at hown; obtain ⟨va2, vc2, rfl⟩ := own_shapeK hown; have O2 := Lib.hid hown; have K2 := Lib.hid (push_okG K1.out O1.out (by have := K1.out.size; omega) hgr); clear hown hgr)
            clear e1 e2
            have r0 := fun z : Later w2 => (AF.out z.w (K2.out.trans (z.below.mono K2.out.size))).1
            have r1 := fun z : Later w2 => (AF.out z.w (K2.out.trans (z.below.mono K2.out.size))).2
            have q0 := fun z : Later w2 => (SF.out z.w (K2.out.trans (z.below.mono K2.out.size))).1
            have q1 := fun z : Later w2 => (SF.out z.w (K2.out.trans (z.below.mono K2.out.size))).2
            refine wp_region_later (by kernel_rfl) (by kernel_rfl) ?_
            repeat (go_big_quiet_step (fail))
            refine wpQuiet_nil ?_
            rintro _ ⟨xl3, rfl⟩
            have K3 := Lib.hid (K2.out.trans (xl3.below.mono K2.out.size))
            have O3 := Lib.hid (own_belowK O2.out xl3.below)
            generalize xl3.w = w3 at *
            clear r0 r1 q0 q1
            have EN := Lib.hid (show putF false l (y1, y2) = ms2 ++ putF true (l.drop (i + 1)) (y1, y2) from by rw [← MS2.out]; simpa [List.append_assoc] using EQ.out)
            go_wp2
            go_roundw
            case rel => exact ⟨i + 1, true, ms2, by go_num, by omega, rfl, by have e2 := congrArg List.length MS2.out; rw [List.length_append] at e2; simp only [List.length_cons, List.length_nil] at e2; omega, Lib.hid ⟨O3.out, K3.out, EN.out⟩⟩
            case measure => simp [intOf]; omega
          · have EQ := Lib.hid (show putF false l (s1, s2) = m ++ ([(s1, s2)] ++ [(y1, y2)] ++ putF true (l.drop (i + 1)) (s1, s2)) from by have e := EQ.out; rw [putF_cons] at e; simpa [HLT.out, hne] using e)
            clear hne
            rcases hs with t1 | ⟨t1, t2⟩
            all_goals
              go_upto_region 6 with (fail)
              have l0 := fun z : Later w0 => (AF.out z.w (K0.out.trans (z.below.mono K0.out.size))).1
              have l1 := fun z : Later w0 => (AF.out z.w (K0.out.trans (z.below.mono K0.out.size))).2
              have m0 := fun z : Later w0 => (SF.out z.w (K0.out.trans (z.below.mono K0.out.size))).1
              have m1 := fun z : Later w0 => (SF.out z.w (K0.out.trans (z.below.mono K0.out.size))).2
              refine wp_region_later (by kernel_rfl) (by kernel_rfl) ?_
              repeat (go_big_quiet_step (first | (go_at_call 37; with_reducible exact later_call (LS.out _))))
              refine wpQuiet_nil ?_
              rintro _ ⟨xl1, rfl⟩
              have K1 := Lib.hid (K0.out.trans (xl1.below.mono K0.out.size))
              have O1 := Lib.hid (own_belowK O0.out xl1.below)
              generalize xl1.w = w1 at *
              clear l0 l1 m0 m1
              obtain ⟨e1, e2⟩ := SF.out _ K1.out
              obtain ⟨ms2, hms2⟩ : ∃ ms, (m) ++ [(s1, s2)] = ms := ⟨_, rfl⟩
              have MS2 := Lib.hid hms2
              clear hms2
              have OX2 := Lib.hid (own_belowK O1.out (vstep w1 (.cells #[.int .i64 s1, .int .i64 s2] 39)))
              have HX2 := Lib.hid (show (w1.alloc (.cells #[.int .i64 s1, .int .i64 s2] 39)).heap[w1.heap.size]? = some (.cells (encS (s1, s2)).toArray 39 (0, 0)) from heap_alloc_new w1 _)
              have QX2 := Lib.hid (And.intro (show (m).length + 1 ≤ maxLen from by have := LN.out; unfold maxLen; omega) (And.intro (show ((m).length + 1) * 16 ≤ 140737488355328 from by have := LN.out; omega) (show W0.heap.size ≤ (w1.alloc (.cells #[.int .i64 s1, .int .i64 s2] 39)).heap.size from by have := K1.out.size; simp; omega)))
              go_upto_region 9 with (at_builtin; refine wpList_pushK rfl (.tmp 25) (.tmp 27) 30 rfl encS_len (by decide) encS_one (W0.heap.size) 39 i0 (.agg #[.int .i64 0, .int .i64 0]) 16 Try.u30 hi9 hz0 hz1 hz2 rfl _ (m) (s1, s2) w1.heap.size rfl rfl HX2.out OX2.out QX2.out.1 QX2.out.2.1 QX2.out.2.2 ?_; intro v2 w2 hown hgr; rw [MS2.out] at hown; obtain ⟨va2, vc2, rfl⟩ := own_shapeK hown; have O2 := Lib.hid hown; have K2 := Lib.hid (push_okG K1.out O1.out (by have := K1.out.size; omega) hgr); clear hown hgr)
              clear e1 e2
              have r0 := fun z : Later w2 => (AF.out z.w (K2.out.trans (z.below.mono K2.out.size))).1
              have r1 := fun z : Later w2 => (AF.out z.w (K2.out.trans (z.below.mono K2.out.size))).2
              have q0 := fun z : Later w2 => (SF.out z.w (K2.out.trans (z.below.mono K2.out.size))).1
              have q1 := fun z : Later w2 => (SF.out z.w (K2.out.trans (z.below.mono K2.out.size))).2
              refine wp_region_later (by kernel_rfl) (by kernel_rfl) ?_
              repeat (go_big_quiet_step (fail))
              refine wpQuiet_nil ?_
              rintro _ ⟨xl3, rfl⟩
              have K3 := Lib.hid (K2.out.trans (xl3.below.mono K2.out.size))
              have O3 := Lib.hid (own_belowK O2.out xl3.below)
              generalize xl3.w = w3 at *
              clear r0 r1 q0 q1
              obtain ⟨e1, e2⟩ := AF.out _ K3.out
              obtain ⟨ms4, hms4⟩ : ∃ ms, (ms2) ++ [(y1, y2)] = ms := ⟨_, rfl⟩
              have MS4 := Lib.hid hms4
              clear hms4
              have OX4 := Lib.hid (own_belowK O3.out (vstep w3 (.cells #[.int .i64 y1, .int .i64 y2] 39)))
              have HX4 := Lib.hid (show (w3.alloc (.cells #[.int .i64 y1, .int .i64 y2] 39)).heap[w3.heap.size]? = some (.cells (encS (y1, y2)).toArray 39 (0, 0)) from heap_alloc_new w3 _)
              have QX4 := Lib.hid (And.intro (show (ms2).length + 1 ≤ maxLen from by have := LN.out; unfold maxLen; have e2 := congrArg List.length MS2.out; rw [List.length_append] at e2; simp only [List.length_cons, List.length_nil] at e2; omega) (And.intro (show ((ms2).length + 1) * 16 ≤ 140737488355328 from by have := LN.out; have e2 := congrArg List.length MS2.out; rw [List.length_append] at e2; simp only [List.length_cons, List.length_nil] at e2; omega) (show W0.heap.size ≤ (w3.alloc (.cells #[.int .i64 y1, .int .i64 y2] 39)).heap.size from by have := K3.out.size; simp; omega)))
              go_wp2_with (at_builtin; refine wpList_pushK rfl (.tmp 35) (.tmp 40) 30 rfl encS_len (by decide) encS_one (W0.heap.size) 39 i0 (.agg #[.int .i64 0, .int .i64 0]) 16 Try.u30 hi9 hz0 hz1 hz2 rfl _ (ms2) (y1, y2) w3.heap.size rfl rfl HX4.out OX4.out QX4.out.1 QX4.out.2.1 QX4.out.2.2 ?_; intro v4 w4 hown hgr; rw [MS4.out] at hown; obtain ⟨va4, vc4, rfl⟩ := own_shapeK hown; have O4 := Lib.hid hown; have K4 := Lib.hid (push_okG K3.out O3.out (by have := K3.out.size; omega) hgr); clear hown hgr)
              clear e1 e2
              have EN := Lib.hid (show putF false l (s1, s2) = ms4 ++ putF true (l.drop (i + 1)) (s1, s2) from by rw [← MS4.out, ← MS2.out]; simpa [List.append_assoc] using EQ.out)
              go_wp2
              go_roundw
              case rel => exact ⟨i + 1, true, ms4, by go_num, by omega, rfl, by have e2 := congrArg List.length MS2.out; rw [List.length_append] at e2; simp only [List.length_cons, List.length_nil] at e2; have e4 := congrArg List.length MS4.out; rw [List.length_append] at e4; simp only [List.length_cons, List.length_nil] at e4; omega, Lib.hid ⟨O4.out, K4.out, EN.out⟩⟩
              case measure => simp [intOf]; omega
    · have EQ := Lib.hid (show putF false l (s1, s2) = m ++ (if d then [] else [(s1, s2)]) from by have e := EQ.out; rw [List.drop_of_length_le (by omega)] at e; exact e)
      generalize wr = w0 at *
      cases d with
      | true =>
        have FIN := Lib.hid (show w0.ownsRow w.heap.size 39 2 (.slice oa m.length oc) (putF false l (s1, s2)).length ((putF false l (s1, s2)).flatMap encS) ∧ Below w.heap.size w w0 from by
          rw [EQ.out]
          simp only [if_true, List.append_nil]
          exact ⟨own_less O0.out B.out.size, B.out.trans (K0.out.mono B.out.size)⟩)
        go_wp2
        go_returns
        exact ⟨_, rfl, FIN.out.1, FIN.out.2⟩
      | false =>
        obtain ⟨e1, e2⟩ := SF.out _ K0.out
        obtain ⟨ms2, hms2⟩ : ∃ ms, (m) ++ [(s1, s2)] = ms := ⟨_, rfl⟩
        have MS2 := Lib.hid hms2
        clear hms2
        have OX2 := Lib.hid (own_belowK O0.out (vstep w0 (.cells #[.int .i64 s1, .int .i64 s2] 39)))
        have HX2 := Lib.hid (show (w0.alloc (.cells #[.int .i64 s1, .int .i64 s2] 39)).heap[w0.heap.size]? = some (.cells (encS (s1, s2)).toArray 39 (0, 0)) from heap_alloc_new w0 _)
        have QX2 := Lib.hid (And.intro (show (m).length + 1 ≤ maxLen from by have := LN.out; unfold maxLen; omega) (And.intro (show ((m).length + 1) * 16 ≤ 140737488355328 from by have := LN.out; omega) (show W0.heap.size ≤ (w0.alloc (.cells #[.int .i64 s1, .int .i64 s2] 39)).heap.size from by have := K0.out.size; simp; omega)))
        go_wp2_with (at_builtin; refine wpList_pushK rfl (.tmp 44) (.tmp 46) 30 rfl encS_len (by decide) encS_one (W0.heap.size) 39 i0 (.agg #[.int .i64 0, .int .i64 0]) 16 Try.u30 hi9 hz0 hz1 hz2 rfl _ (m) (s1, s2) w0.heap.size rfl rfl HX2.out OX2.out QX2.out.1 QX2.out.2.1 QX2.out.2.2 ?_; intro v2 w2 hown hgr; rw [MS2.out] at hown; obtain ⟨va2, vc2, rfl⟩ := own_shapeK hown; have O2 := Lib.hid hown; have K2 := Lib.hid (push_okG K0.out O0.out (by have := K0.out.size; omega) hgr); clear hown hgr)
        have FIN := Lib.hid (show w2.ownsRow w.heap.size 39 2 (.slice va2 ms2.length vc2) (putF false l (s1, s2)).length ((putF false l (s1, s2)).flatMap encS) ∧ Below w.heap.size w w2 from by
          rw [EQ.out, if_neg (by decide), MS2.out]
          exact ⟨own_less O2.out B.out.size, B.out.trans (K2.out.mono B.out.size)⟩)
        clear e1 e2
        go_wp2
        go_returns
        exact ⟨_, rfl, FIN.out.1, FIN.out.2⟩
set_option maxHeartbeats 1600000 in
theorem rsort_any (w : World) (v : Value) (l : List Sp) (h : LiesK encS 2 w v l) (hl : ∀ i, (sortF (l.take i)).length ≤ 1000) :
    Calls Try.prog 36 #[v] w fun e w' => ∃ r, e = .returned r ∧ w'.ownsRow w.heap.size 39 2 r (sortF l).length ((sortF l).flatMap encS) ∧ Below w.heap.size w w' := by
  have L := Lib.hid h
  have HL := Lib.hid hl
  obtain ⟨ao, cap, rfl⟩ := h.shape
  have hlm := h.len
  clear h hl
  go_enter Try.func36, Try.ntmps36
  go_wp2_with fail
  go_loopw [3, 4] (fun ov kv wr => ∃ i : Nat, kv = .int .i64 i ∧ i ≤ l.length ∧ Hid (wr.ownsRow w.heap.size 39 2 ov (sortF (l.take i)).length ((sortF (l.take i)).flatMap encS) ∧ Below w.heap.size w wr)) (fun _ kv _ => l.length - (intOf kv).toNat)
  case atStart => exact ⟨0, rfl, Nat.zero_le _, Lib.hid ⟨World.ownsRow_nil _ _ _ _, Below.refl _ _⟩⟩
  case round =>
    obtain ⟨i, rfl, hi, hK⟩ := hrel
    obtain ⟨oa, oc, rfl⟩ := own_shapeK hK.out.1
    have KK := Lib.hid hK.out
    clear hK
    by_cases hlt : i < l.length
    · obtain ⟨g, o, x, rfl, hx, hg, a0, a1⟩ := (L.out.step KK.out.2).st hlt
      obtain ⟨x1, x2⟩ := x
      have SN := Lib.hid (show sortF (l.take (i + 1)) = putF false (sortF (l.take i)) (x1, x2) from by rw [take_snoc hx, sort_snoc])
      have CA := Lib.hid (rput_any wr _ (sortF (l.take i)) x1 x2 (own_liesK encS_len KK.out.1) (HL.out i))
      generalize sortF (l.take i) = m at *
      clear hx hg
      dsimp only at a0 a1
      go_wp2_with fail
      refine CA.out.mono ?_
      rintro e w3 ⟨r, rfl, ho, hb⟩
      have FIN := Lib.hid (show w3.ownsRow w.heap.size 39 2 r (sortF (l.take (i + 1))).length ((sortF (l.take (i + 1))).flatMap encS) ∧ Below w.heap.size w w3 from ⟨by rw [SN.out]; exact own_less ho KK.out.2.size, KK.out.2.trans (hb.mono KK.out.2.size)⟩)
      clear ho hb CA a0 a1
      go_wp2
      go_roundw
      case rel => exact ⟨i + 1, by go_num, by omega, FIN⟩
      case measure => simp [intOf]; omega
    · have FIN := Lib.hid (show wr.ownsRow w.heap.size 39 2 (.slice oa (sortF (l.take i)).length oc) (sortF l).length ((sortF l).flatMap encS) ∧ Below w.heap.size w wr from by
        have h := KK.out
        rw [show l.take i = l from List.take_of_length_le (by omega)] at h ⊢
        exact h)
      clear KK
      go_wp2
      go_returns
      exact ⟨_, rfl, FIN.out.1, FIN.out.2⟩
end Go.Proofs.Ythbliaohaakbiaa
