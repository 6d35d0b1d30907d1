/- Groups: one, Same of both, copies of both, ahead, Items. Made by gengx17.py. -/
import Derived.Test.YthbliaohaakbiaaGW
set_option linter.unusedVariables false
set_option linter.unusedSimpArgs false
set_option maxRecDepth 100000
namespace Go.Proofs.Ythbliaohaakbiaa
open Go.RowKit Go.Sort

def Gn.p (x : Gn) : Gp := ⟨x.n, x.d, x.l⟩
theorem Gn.p_key (x : Gn) : x.p.key = x.key := rfl
/-- A slice that holds groups, whose nodes lie there. -/
def GsL (w : World) (v : Value) (gs : List Gn) : Prop := LiesK encN 3 w v gs ∧ ∀ x ∈ gs, LiesK encS 2 w x.v x.l
theorem GsL.step {w w' : World} {v : Value} {gs : List Gn} (h : GsL w v gs) (hb : Below w.heap.size w w') : GsL w' v gs := ⟨h.1.step hb, fun x hx => (h.2 x hx).step hb⟩
theorem GsL.gr {w : World} {ao : Option Addr} {n cap : Nat} {l : List Gn} (h : GsL w (.slice ao n cap) l) {i : Nat} (hi : i < n) : ∃ g o x, ao = some ⟨g, o, none⟩ ∧ l[i]? = some x ∧ g < w.heap.size ∧ w.cell? ⟨g, o + i * 3, none⟩ = some (.string x.n) ∧ w.cell? ⟨g, o + i * 3 + 1, none⟩ = some (.bool x.d) ∧ w.cell? ⟨g, o + i * 3 + 2, none⟩ = some x.v ∧ LiesK encS 2 w x.v x.l := by
  obtain ⟨g, o, x, rfl, hx, hg, hc⟩ := h.1.at' hi
  exact ⟨g, o, x, rfl, hx, hg, hc 0 _ rfl, hc 1 _ rfl, hc 2 _ rfl, h.2 x (List.mem_of_getElem? hx)⟩
theorem box3 {W : World} {g : Nat} {a b c : Value} {T : TypeId} (h : W.heap[g]? = some (.cells #[a, b, c] T (0, 0))) : W.cell? ⟨g, 0, none⟩ = some a ∧ W.cell? ⟨g, 1, none⟩ = some b ∧ W.cell? ⟨g, 2, none⟩ = some c := by
  refine ⟨?_, ?_, ?_⟩ <;> (rw [cell_of_row _ _ _ _ _ _ h]; rfl)
theorem GR3 {W0 : World} {g o i : Nat} {n : ByteArray} {d : Bool} {v : Value} (hg : g < W0.heap.size) (a0 : W0.cell? ⟨g, o + i * 3, none⟩ = some (.string n)) (a1 : W0.cell? ⟨g, o + i * 3 + 1, none⟩ = some (.bool d)) (a2 : W0.cell? ⟨g, o + i * 3 + 2, none⟩ = some v) (W : World) (hb : Below W0.heap.size W0 W) :
    W.cell? ⟨g, o + i * 3, none⟩ = some (.string n) ∧ W.cell? ⟨g, o + i * 3 + 1, none⟩ = some (.bool d) ∧ W.cell? ⟨g, o + i * 3 + 2, none⟩ = some v :=
  ⟨(hb.cell (p := ⟨g, o + i * 3, none⟩) hg).trans a0, (hb.cell (p := ⟨g, o + i * 3 + 1, none⟩) hg).trans a1, (hb.cell (p := ⟨g, o + i * 3 + 2, none⟩) hg).trans a2⟩
noncomputable def eqG (a b : Gp) : Bool := @decide (a = b) (Classical.propDecidable _)
noncomputable def sameG (a b : List Gp) : Bool := @decide (a = b) (Classical.propDecidable _)
theorem eqG_t {a b : Gp} (h : a = b) : eqG a b = true := by unfold eqG; exact @decide_eq_true _ (Classical.propDecidable _) h
theorem eqG_f {a b : Gp} (h : a ≠ b) : eqG a b = false := by unfold eqG; exact @decide_eq_false _ (Classical.propDecidable _) h
theorem sameG_t {a b : List Gp} (h : a = b) : sameG a b = true := by unfold sameG; exact @decide_eq_true _ (Classical.propDecidable _) h
theorem sameG_f {a b : List Gp} (h : a ≠ b) : sameG a b = false := by unfold sameG; exact @decide_eq_false _ (Classical.propDecidable _) h
theorem eqG_of {n n' : ByteArray} {d d' : Bool} {l l' : List Sp} (h1 : n = n') (h2 : d = d') : eqG ⟨n, d, l⟩ ⟨n', d', l'⟩ = decide (l = l') := by
  subst h1 h2
  by_cases h : l = l'
  · subst h; rw [eqG_t rfl]; simp
  · rw [eqG_f (fun e => h (by injection e)), decide_eq_false h]
set_option maxHeartbeats 1600000 in
theorem one_any (w : World) (n n' : ByteArray) (d d' : Bool) (v v' : Value) (l l' : List Sp) (h : LiesK encS 2 w v l) (h' : LiesK encS 2 w v' l') :
    Calls Try.prog 30 #[gvl n d v, gvl n' d' v'] w fun e w' => e = .returned (.bool (eqG ⟨n, d, l⟩ ⟨n', d', l'⟩)) ∧ Below w.heap.size w w' := by
  obtain ⟨a1, c1, rfl⟩ := h.shape
  obtain ⟨a2, c2, rfl⟩ := h'.shape
  have B1 := vstep w (.cells #[.string n, .bool d, .slice a1 l.length c1] 32)
  have B2 := vstep (w.alloc (.cells #[.string n, .bool d, .slice a1 l.length c1] 32)) (.cells #[.string n', .bool d', .slice a2 l'.length c2] 32)
  have BB := Lib.hid (B1.trans (B2.mono B1.size))
  have EQ := Lib.hid (equal_any _ _ _ l l' (h.step BB.out) (h'.step BB.out))
  clear B1 B2
  by_cases hn : n = n'
  · by_cases hd : d = d'
    · rw [eqG_of hn hd]
      have t1 := tl_eq hn
      have t2 : (d == d') = true := by simp [hd]
      clear hn hd h h'
      go_enter Try.func30, Try.ntmps30
      go_wp2_with (go_at_call 38; refine EQ.out.mono ?_; rintro e w' ⟨rfl, hb⟩; have BB := Lib.hid (BB.out.trans (hb.mono BB.out.size)); clear hb)
      go_returns
      exact ⟨rfl, BB.out⟩
    · rw [eqG_f (fun e => hd (by injection e))]
      have t1 := tl_eq hn
      have t2 : (d == d') = false := by simp [hd]
      clear hn hd h h'
      go_enter Try.func30, Try.ntmps30
      go_wp2
      go_returns
      exact ⟨rfl, BB.out⟩
  · rw [eqG_f (fun e => hn (by injection e))]
    have t1 := tl_ne hn
    clear hn h h'
    go_enter Try.func30, Try.ntmps30
    go_wp2
    go_returns
    exact ⟨rfl, BB.out⟩
theorem map_ext {α β : Type} {f : α → β} {l m : List α} (hl : l.length = m.length) (h : ∀ (j : Nat) x y, l[j]? = some x → m[j]? = some y → f x = f y) : l.map f = m.map f := by
  refine list_ext_get (by rw [List.length_map, List.length_map]; exact hl) (fun j hj => ?_)
  rw [List.length_map] at hj
  rw [List.getElem?_map, List.getElem?_map, List.getElem?_eq_getElem hj, List.getElem?_eq_getElem (show j < m.length by omega)]
  exact congrArg some (h j _ _ (List.getElem?_eq_getElem hj) (List.getElem?_eq_getElem (by omega)))
theorem map_ne {α β : Type} {f : α → β} {l m : List α} {j : Nat} {x y : α} (hx : l[j]? = some x) (hy : m[j]? = some y) (h : f x ≠ f y) : l.map f ≠ m.map f := fun e => by
  have := congrArg (fun z => z[j]?) e
  simp only [List.getElem?_map, hx, hy, Option.map_some] at this
  injection this with this
  exact h this
theorem map_len_ne {α β : Type} {f : α → β} {l m : List α} (h : l.length ≠ m.length) : l.map f ≠ m.map f := fun e => h (by have := congrArg List.length e; rwa [List.length_map, List.length_map] at this)
set_option maxHeartbeats 3200000 in
theorem equalfunc_any (w : World) (v1 v2 : Value) (l m : List Gn) (h1 : GsL w v1 l) (h2 : GsL w v2 m) :
    Calls Try.prog 29 #[v1, v2, .func (.func 30) #[] #[]] w fun e w' => e = .returned (.bool (sameG (l.map Gn.p) (m.map Gn.p))) ∧ Below w.heap.size w w' := by
  have hl1 := h1.1.len
  have hl2 := h2.1.len
  have H1 := Lib.hid h1
  have H2 := Lib.hid h2
  obtain ⟨a1, c1, rfl⟩ := h1.1.shape
  obtain ⟨a2, c2, rfl⟩ := h2.1.shape
  clear h1 h2
  by_cases hne : l.length = m.length
  · have HN := Lib.hid hne
    have t0 : ((l.length : Int) != (m.length : Int)) = false := by simp [hne]
    go_enter Try.func29, Try.ntmps29
    clear hne
    go_wp2
    clear t0
    go_loopw [17] (fun kv wr => ∃ i : Nat, kv = .int .i64 i ∧ i ≤ l.length ∧ Hid ((∀ (j : Nat) x y, j < i → l[j]? = some x → m[j]? = some y → x.p = y.p) ∧ Below w.heap.size w wr)) (fun kv _ => l.length - (intOf kv).toNat)
    case atStart => exact ⟨0, rfl, Nat.zero_le _, Lib.hid ⟨fun j _ _ h => absurd h (Nat.not_lt_zero _), Below.refl _ _⟩⟩
    case round =>
      obtain ⟨i, rfl, hi, hJ⟩ := hrel
      have HJ := Lib.hid hJ.out.1
      have KB := Lib.hid hJ.out.2
      clear hJ
      by_cases hlt : i < l.length
      · obtain ⟨g, o, x, rfl, hx, hg, d0, d1, d2, d3⟩ := (H1.out.step KB.out).gr hlt
        have hmlt : i < m.length := by have := HN.out; omega
        obtain ⟨g', o', y, rfl, hy, hg', e0, e1, e2, e3⟩ := (H2.out.step KB.out).gr hmlt
        obtain ⟨xa, xc, hxv⟩ := d3.shape
        obtain ⟨ya, yc, hyv⟩ := e3.shape
        rw [hxv] at d2
        rw [hyv] at e2
        have B1 := vstep wr (.cells #[.string x.n, .bool x.d, x.v] 32)
        obtain ⟨u0, u1, u2⟩ := GR3 hg' e0 e1 e2 _ B1
        have N1 := heap_alloc_new wr (.cells #[.string x.n, .bool x.d, x.v] 32)
        have e3 := e3.step B1
        have d3 := d3.step B1
        obtain ⟨W1, hW1⟩ : ∃ zz, wr.alloc (.cells #[.string x.n, .bool x.d, x.v] 32) = zz := ⟨_, rfl⟩
        rw [hW1] at u0 u1 u2 B1 e3 d3 N1
        rw [hxv] at hW1
        have HW1 := Lib.hid hW1
        have B2 := vstep W1 (.cells #[.string y.n, .bool y.d, y.v] 32)
        have N2 := heap_alloc_new W1 (.cells #[.string y.n, .bool y.d, y.v] 32)
        have N1 := (B2.block _ (lt_of_block N1)).trans N1
        have ON := Lib.hid (one_any _ x.n y.n x.d y.d x.v y.v x.l y.l (d3.step B2) (e3.step B2))
        have KB := Lib.hid (KB.out.trans ((B1.trans (B2.mono B1.size)).mono KB.out.size))
        rw [hxv] at ON
        rw [hxv] at N1
        rw [hyv] at N1 N2 B2
        obtain ⟨W2, hW2⟩ : ∃ zz, W1.alloc (.cells #[.string y.n, .bool y.d, .slice ya y.l.length yc] 32) = zz := ⟨_, rfl⟩
        have HW2 := Lib.hid hW2
        rw [hyv, hW2] at ON
        rw [hyv, hW2] at KB
        rw [hW2] at N1 N2
        have P1 := Lib.hid (box3 N1)
        have P2 := Lib.hid (box3 N2)
        clear e0 e1 e2 hW1 hW2 N1 N2
        clear B1 B2 d3 e3 hxv hyv
        by_cases hq : x.p = y.p
        · have HQ := Lib.hid (show ∀ (j : Nat) x y, j < i + 1 → l[j]? = some x → m[j]? = some y → x.p = y.p from fun j a b hj ha hb => by
            by_cases e : j = i
            · subst e
              rw [hx] at ha; rw [hy] at hb
              injection ha with ha; injection hb with hb
              subst ha hb
              exact hq
            · exact HJ.out j a b (by omega) ha hb)
          rw [eqG_t (show (⟨x.n, x.d, x.l⟩ : Gp) = ⟨y.n, y.d, y.l⟩ from hq)] at ON
          clear hq HJ hx hy hg hg'
          go_upto_region 6 with (fail)
          rw [HW1.out]
          go_upto_region 7 with (fail)
          rw [HW2.out]
          clear u0 u1 u2
          obtain ⟨u0, u1, u2⟩ := P1.out
          obtain ⟨z0, z1, z2⟩ := P2.out
          go_wp2_with (go_at_call 30; refine ON.out.mono ?_; rintro e w' ⟨rfl, hb⟩; have KB := Lib.hid (KB.out.trans (hb.mono KB.out.size)); clear hb)
          go_roundw
          case rel => exact ⟨i + 1, by go_num, by omega, Lib.hid ⟨HQ.out, KB.out⟩⟩
          case measure => simp [intOf]; omega
        · have HF := Lib.hid (sameG_f (map_ne (f := Gn.p) hx hy hq))
          rw [eqG_f (show (⟨x.n, x.d, x.l⟩ : Gp) ≠ ⟨y.n, y.d, y.l⟩ from hq)] at ON
          clear hq HJ hx hy hg hg'
          go_upto_region 6 with (fail)
          rw [HW1.out]
          go_upto_region 7 with (fail)
          rw [HW2.out]
          clear u0 u1 u2
          obtain ⟨u0, u1, u2⟩ := P1.out
          obtain ⟨z0, z1, z2⟩ := P2.out
          go_wp2_with (go_at_call 30; refine ON.out.mono ?_; rintro e w' ⟨rfl, hb⟩; have KB := Lib.hid (KB.out.trans (hb.mono KB.out.size)); clear hb)
          go_returns
          exact ⟨ret_b' HF.out, KB.out⟩
      · have HT := Lib.hid (sameG_t (map_ext (f := Gn.p) HN.out (fun j a b ha hb => HJ.out j a b (by have := (List.getElem?_eq_some_iff.1 ha).1; omega) ha hb)))
        clear HJ
        go_wp2
        go_returns
        exact ⟨ret_b' HT.out, KB.out⟩
  · have HF := Lib.hid (sameG_f (map_len_ne (f := Gn.p) hne))
    have t0 : ((l.length : Int) != (m.length : Int)) = true := by simp; omega
    clear hne
    go_enter Try.func29, Try.ntmps29
    go_wp2
    go_returns
    exact ⟨ret_b' HF.out, Below.refl _ _⟩
theorem same_any (w : World) (v1 v2 : Value) (l m : List Gn) (h1 : GsL w v1 l) (h2 : GsL w v2 m) :
    Calls Try.prog 16 #[v1, v2] w fun e w' => e = .returned (.bool (sameG (l.map Gn.p) (m.map Gn.p))) ∧ Below w.heap.size w w' := by
  have E := Lib.hid (equalfunc_any w v1 v2 l m h1 h2)
  clear h1 h2
  go_enter Try.func16, Try.ntmps16
  go_wp2_with (go_at_call 29; refine E.out.mono ?_; rintro e w' ⟨rfl, hb⟩; have KB := Lib.hid hb; clear hb)
  go_returns
  exact ⟨rfl, KB.out⟩
set_option maxHeartbeats 6400000 in
theorem rsameG_any (w : World) (v1 v2 : Value) (l m : List Gn) (h1 : GsL w v1 l) (h2 : GsL w v2 m) :
    Calls Try.prog 12 #[v1, v2] w fun e w' => e = .returned (.bool (sameG (l.map Gn.p) (m.map Gn.p))) ∧ Below w.heap.size w w' := by
  have hl1 := h1.1.len
  have hl2 := h2.1.len
  have H1 := Lib.hid h1
  have H2 := Lib.hid h2
  obtain ⟨a1, c1, rfl⟩ := h1.1.shape
  obtain ⟨a2, c2, rfl⟩ := h2.1.shape
  clear h1 h2
  by_cases hne : l.length = m.length
  · have HN := Lib.hid hne
    have t0 : ((l.length : Int) != (m.length : Int)) = false := by simp [hne]
    go_enter Try.func12, Try.ntmps12
    clear hne
    go_wp2
    clear t0
    go_loopw [5] (fun kv wr => ∃ i : Nat, kv = .int .i64 i ∧ i ≤ l.length ∧ Hid ((∀ (j : Nat) x y, j < i → l[j]? = some x → m[j]? = some y → x.p = y.p) ∧ Below w.heap.size w wr)) (fun kv _ => l.length - (intOf kv).toNat)
    case atStart => exact ⟨0, rfl, Nat.zero_le _, Lib.hid ⟨fun j _ _ h => absurd h (Nat.not_lt_zero _), Below.refl _ _⟩⟩
    case round =>
      obtain ⟨i, rfl, hi, hJ⟩ := hrel
      have HJ := Lib.hid hJ.out.1
      have K0 := Lib.hid hJ.out.2
      clear hJ
      by_cases hlt : i < l.length
      · obtain ⟨g, o, x, rfl, hx, hg, d0, d1, d2, d3⟩ := H1.out.gr hlt
        have hmlt : i < m.length := by have := HN.out; omega
        obtain ⟨g', o', y, rfl, hy, hg', e0, e1, e2, e3⟩ := H2.out.gr hmlt
        have AF := Lib.hid (fun W (hb : Below w.heap.size w W) => GR3 hg d0 d1 d2 W hb)
        have BF := Lib.hid (fun W (hb : Below w.heap.size w W) => GR3 hg' e0 e1 e2 W hb)
        have SM := Lib.hid (fun W (hb : Below w.heap.size w W) => rsame_any W _ _ x.l y.l (d3.step hb) (e3.step hb))
        obtain ⟨xa, xc, hxv⟩ := d3.shape
        obtain ⟨ya, yc, hyv⟩ := e3.shape
        rw [hxv, hyv] at SM
        rw [hxv] at AF
        rw [hyv] at BF
        have HS : (x.p = y.p ∧ x.n = y.n ∧ x.d = y.d ∧ x.l = y.l) ∨ (x.p ≠ y.p ∧ (x.n ≠ y.n ∨ (x.n = y.n ∧ x.d ≠ y.d) ∨ (x.n = y.n ∧ x.d = y.d ∧ x.l ≠ y.l))) := by
          by_cases q1 : x.n = y.n
          · by_cases q2 : x.d = y.d
            · by_cases q3 : x.l = y.l
              · exact .inl ⟨Gp.ext' q1 q2 q3, q1, q2, q3⟩
              · exact .inr ⟨fun e => q3 (by injection e), .inr (.inr ⟨q1, q2, q3⟩)⟩
            · exact .inr ⟨fun e => q2 (by injection e), .inr (.inl ⟨q1, q2⟩)⟩
          · exact .inr ⟨fun e => q1 (by injection e), .inl q1⟩
        clear d0 d1 d2 d3 e0 e1 e2 e3 hxv hyv
        generalize wr = w0 at *
        rcases HS with ⟨hq, q1, q2, q3⟩ | ⟨hq, q1 | ⟨q1, q2⟩ | ⟨q1, q2, q3⟩⟩
        · have HQ := Lib.hid (show ∀ (j : Nat) x y, j < i + 1 → l[j]? = some x → m[j]? = some y → x.p = y.p from fun j a b hj ha hb => by
            by_cases e : j = i
            · subst e
              rw [hx] at ha; rw [hy] at hb
              injection ha with ha; injection hb with hb
              subst ha hb
              exact hq
            · exact HJ.out j a b (by omega) ha hb)
          rw [decide_eq_true q3] at SM
          have t1 := tl_eq q1
          have t2 : (x.d == y.d) = true := by simp [q2]
          have t3 : (x.d != y.d) = false := by simp [q2]
          clear hq q1 q2 q3 HJ hx hy hg hg'
          go_upto_region 6 with (fail)
          have x0 := fun z : Later w0 => (AF.out z.w (K0.out.trans (z.below.mono K0.out.size))).1
          have x1 := fun z : Later w0 => (AF.out z.w (K0.out.trans (z.below.mono K0.out.size))).2.1
          have x2 := fun z : Later w0 => (AF.out z.w (K0.out.trans (z.below.mono K0.out.size))).2.2
          have y0 := fun z : Later w0 => (BF.out z.w (K0.out.trans (z.below.mono K0.out.size))).1
          have y1 := fun z : Later w0 => (BF.out z.w (K0.out.trans (z.below.mono K0.out.size))).2.1
          have y2 := fun z : Later w0 => (BF.out z.w (K0.out.trans (z.below.mono K0.out.size))).2.2
          refine wp_region_later (by kernel_rfl) (by kernel_rfl) ?_
          repeat (go_big_quiet_step (first | (go_at_call 18; with_reducible exact later_call (SM.out _ (K0.out.trans ((Later.below _).mono K0.out.size))))))
          refine wpQuiet_nil ?_
          rintro _ ⟨xl1, rfl⟩
          have K1 := Lib.hid (K0.out.trans (xl1.below.mono K0.out.size))
          generalize xl1.w = w1 at *
          clear x0 x1 x2 y0 y1 y2
          go_wp2
          go_roundw
          case rel => exact ⟨i + 1, by go_num, by omega, Lib.hid ⟨HQ.out, K1.out⟩⟩
          case measure => simp [intOf]; omega
        · have HF := Lib.hid (sameG_f (map_ne (f := Gn.p) hx hy hq))
          have t1 := tl_ne q1
          clear hq q1 HJ hx hy hg hg'
          go_upto_region 6 with (fail)
          have x0 := fun z : Later w0 => (AF.out z.w (K0.out.trans (z.below.mono K0.out.size))).1
          have x1 := fun z : Later w0 => (AF.out z.w (K0.out.trans (z.below.mono K0.out.size))).2.1
          have x2 := fun z : Later w0 => (AF.out z.w (K0.out.trans (z.below.mono K0.out.size))).2.2
          have y0 := fun z : Later w0 => (BF.out z.w (K0.out.trans (z.below.mono K0.out.size))).1
          have y1 := fun z : Later w0 => (BF.out z.w (K0.out.trans (z.below.mono K0.out.size))).2.1
          have y2 := fun z : Later w0 => (BF.out z.w (K0.out.trans (z.below.mono K0.out.size))).2.2
          refine wp_region_later (by kernel_rfl) (by kernel_rfl) ?_
          repeat (go_big_quiet_step (fail))
          refine wpQuiet_nil ?_
          rintro _ ⟨xl1, rfl⟩
          have K1 := Lib.hid (K0.out.trans (xl1.below.mono K0.out.size))
          generalize xl1.w = w1 at *
          clear x0 x1 x2 y0 y1 y2
          go_wp2
          go_returns
          exact ⟨ret_b' HF.out, K1.out⟩
        · have HF := Lib.hid (sameG_f (map_ne (f := Gn.p) hx hy hq))
          have t1 := tl_eq q1
          have t2 : (x.d == y.d) = false := by simp [q2]
          have t3 : (x.d != y.d) = true := by simp [q2]
          clear hq q1 q2 HJ hx hy hg hg'
          go_upto_region 6 with (fail)
          have x0 := fun z : Later w0 => (AF.out z.w (K0.out.trans (z.below.mono K0.out.size))).1
          have x1 := fun z : Later w0 => (AF.out z.w (K0.out.trans (z.below.mono K0.out.size))).2.1
          have x2 := fun z : Later w0 => (AF.out z.w (K0.out.trans (z.below.mono K0.out.size))).2.2
          have y0 := fun z : Later w0 => (BF.out z.w (K0.out.trans (z.below.mono K0.out.size))).1
          have y1 := fun z : Later w0 => (BF.out z.w (K0.out.trans (z.below.mono K0.out.size))).2.1
          have y2 := fun z : Later w0 => (BF.out z.w (K0.out.trans (z.below.mono K0.out.size))).2.2
          refine wp_region_later (by kernel_rfl) (by kernel_rfl) ?_
          repeat (go_big_quiet_step (fail))
          refine wpQuiet_nil ?_
          rintro _ ⟨xl1, rfl⟩
          have K1 := Lib.hid (K0.out.trans (xl1.below.mono K0.out.size))
          generalize xl1.w = w1 at *
          clear x0 x1 x2 y0 y1 y2
          go_wp2
          go_returns
          exact ⟨ret_b' HF.out, K1.out⟩
        · have HF := Lib.hid (sameG_f (map_ne (f := Gn.p) hx hy hq))
          rw [decide_eq_false q3] at SM
          have t1 := tl_eq q1
          have t2 : (x.d == y.d) = true := by simp [q2]
          have t3 : (x.d != y.d) = false := by simp [q2]
          clear hq q1 q2 q3 HJ hx hy hg hg'
          go_upto_region 6 with (fail)
          have x0 := fun z : Later w0 => (AF.out z.w (K0.out.trans (z.below.mono K0.out.size))).1
          have x1 := fun z : Later w0 => (AF.out z.w (K0.out.trans (z.below.mono K0.out.size))).2.1
          have x2 := fun z : Later w0 => (AF.out z.w (K0.out.trans (z.below.mono K0.out.size))).2.2
          have y0 := fun z : Later w0 => (BF.out z.w (K0.out.trans (z.below.mono K0.out.size))).1
          have y1 := fun z : Later w0 => (BF.out z.w (K0.out.trans (z.below.mono K0.out.size))).2.1
          have y2 := fun z : Later w0 => (BF.out z.w (K0.out.trans (z.below.mono K0.out.size))).2.2
          refine wp_region_later (by kernel_rfl) (by kernel_rfl) ?_
          repeat (go_big_quiet_step (first | (go_at_call 18; with_reducible exact later_call (SM.out _ (K0.out.trans ((Later.below _).mono K0.out.size))))))
          refine wpQuiet_nil ?_
          rintro _ ⟨xl1, rfl⟩
          have K1 := Lib.hid (K0.out.trans (xl1.below.mono K0.out.size))
          generalize xl1.w = w1 at *
          clear x0 x1 x2 y0 y1 y2
          go_wp2
          go_returns
          exact ⟨ret_b' HF.out, K1.out⟩
      · have HT := Lib.hid (sameG_t (map_ext (f := Gn.p) HN.out (fun j a b ha hb => HJ.out j a b (by have := (List.getElem?_eq_some_iff.1 ha).1; omega) ha hb)))
        clear HJ
        go_wp2
        go_returns
        exact ⟨ret_b' HT.out, K0.out⟩
  · have HF := Lib.hid (sameG_f (map_len_ne (f := Gn.p) hne))
    have t0 : ((l.length : Int) != (m.length : Int)) = true := by simp; omega
    clear hne
    go_enter Try.func12, Try.ntmps12
    go_wp2
    go_returns
    exact ⟨ret_b' HF.out, Below.refl _ _⟩
end Go.Proofs.Ythbliaohaakbiaa
