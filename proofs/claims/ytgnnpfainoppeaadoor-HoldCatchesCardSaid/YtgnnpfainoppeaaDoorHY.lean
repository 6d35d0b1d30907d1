/- HoldCatches' law. -/
import Derived.Test.YtgnnpfainoppeaaDoorHX
import Derived.Test.YtgnnpfainoppeaaDoorHV
set_option linter.unusedVariables false
set_option linter.unusedSimpArgs false
set_option maxRecDepth 100000
namespace Go.Proofs.YtgnnpfainoppeaaDoor
open Go.RowKit
open Ve (zs zs_len vw Rg lackF LiesR)

/-- Two holds beside each other. -/
structure CC (w0 w : World) (ba bb : Nat) (A B : Nat → List O) : Prop where
  bel : Below w0.heap.size w0 w
  st : ∃ sa sb : HS, HK w w0.heap.size ba sa ∧ sa.md = true ∧ sa.bs = zs ∧ sa.L = A ∧ HK w w0.heap.size bb sb ∧ sb.md = true ∧ sb.bs = zs ∧ sb.L = B ∧ ∀ k, HasH ba sa k → ¬ HasH bb sb k
theorem CC.swap {w0 w : World} {ba bb : Nat} {A B : Nat → List O} (h : CC w0 w ba bb A B) : CC w0 w bb ba B A := by
  obtain ⟨h0, sa, sb, h1, h2, h3, h4, h5, h6, h7, h8, h9⟩ := h
  exact ⟨h0, sb, sa, h5, h6, h7, h8, h1, h2, h3, h4, fun k q q2 => h9 k q2 q⟩
theorem CC.step {w0 w w' : World} {ba bb : Nat} {A B : Nat → List O} (h : CC w0 w ba bb A B) (hb : Below w.heap.size w w') : CC w0 w' ba bb A B := by
  obtain ⟨h0, sa, sb, h1, h2, h3, h4, h5, h6, h7, h8, h9⟩ := h
  exact ⟨h0.trans (hb.mono h0.size), sa, sb, h1.step hb, h2, h3, h4, h5.step hb, h6, h7, h8, h9⟩
theorem CC.put {w0 w : World} {ba bb : Nat} {A B : Nat → List O} (h : CC w0 w ba bb A B) (m : Nat) (g : Gd zs A m) (hm : m ≤ 999) (o : O) (hz : o.nm.size ≤ 1000000) :
    Calls Tryd.prog 13 #[pv ba, oV o] w fun e w' => e = .returned (.int .i64 (putI zs A o)) ∧ CC w0 w' ba bb (putL zs A o) B := by
  obtain ⟨h0, sa, sb, h1, h2, h3, rfl, h5, h6, h7, h8, h9⟩ := h
  have P := put_any w w0.heap.size ba sa m h1 h2 (by rw [h3]; exact g) hm h0.size o hz
  rw [h3] at P
  refine P.mono ?_
  rintro e w' ⟨t, rfl, ho, k1, k2, k3⟩
  rw [h3] at k2 k3
  refine ⟨rfl, h0.trans (ho.below h1 h0.size), t, sb, ho.hk, k1, k2, k3, h5.still ho.far (fun k q q2 => h9 k q2 q), h6, h7, h8, fun k q q2 => ?_⟩
  rcases ho.sub k q with q | q
  · exact h9 k q q2
  · have := (h5.base k q2).2; omega
theorem CC.known {w0 w : World} {ba bb : Nat} {A B : Nat → List O} (h : CC w0 w ba bb A B) (m : Nat) (g : Gd zs A m) (hm : m ≤ 1000) : Calls Tryd.prog 24 #[pv ba] w fun e w' => e = .returned (vw (kn zs A)) ∧ Below w.heap.size w w' := by
  obtain ⟨h0, sa, sb, h1, h2, h3, rfl, _⟩ := h
  have := known_any w w0.heap.size ba sa m h1 (by rw [h3]; exact g) hm
  rwa [h3] at this
theorem CC.all {w0 w : World} {ba bb : Nat} {A B : Nat → List O} (h : CC w0 w ba bb A B) (m : Nat) (g : Gd zs A m) (hm : m ≤ 1000) : Calls Tryd.prog 25 #[pv ba] w fun e w' => ∃ r, e = .returned r ∧ RowO w w' r (flat A) := by
  obtain ⟨h0, sa, sb, h1, h2, h3, rfl, _⟩ := h
  exact all_any w w0.heap.size ba sa m h1 (by rw [h3]; exact g) hm
theorem CC.take {w0 w : World} {ba bb : Nat} {A B : Nat → List O} (h : CC w0 w ba bb A B) (m : Nat) (g : Gd zs A m) (hm : m ≤ 1000) (v : Value) (rs : List Rg) (hv : LiesR w v rs) : Calls Tryd.prog 20 #[pv ba, v, .int .i64 1000] w fun e w' => ∃ r, e = .returned r ∧ RowO w w' r (takeF A rs 1000) := by
  obtain ⟨h0, sa, sb, h1, h2, h3, rfl, _⟩ := h
  exact take_any w w0.heap.size ba sa m h1 (by rw [h3]; exact g) hm v rs hv 1000 (by omega)
theorem own_liesR {w : World} {B : Nat} {v : Value} {l : List Rg} (h : w.ownsRow B 70 3 v l.length (Ve.cs3 l)) (hl : l.length ≤ 1000) : LiesR w v l := by
  have get3 : ∀ (l : List Rg) (j : Nat) p, l[j]? = some p → (Ve.cs3 l)[j * 3]? = some (.int .i64 p.1) ∧ (Ve.cs3 l)[j * 3 + 1]? = some (.int .i64 p.2.1) ∧ (Ve.cs3 l)[j * 3 + 2]? = some (.int .i64 p.2.2) := by
    intro l
    induction l with
    | nil => intro j p h; cases h
    | cons a l ih =>
      intro j p h
      cases j with
      | zero => injection h with h; subst h; exact ⟨rfl, rfl, rfl⟩
      | succ j =>
        obtain ⟨h1, h2, h3⟩ := ih j p (by simpa using h)
        refine ⟨?_, ?_, ?_⟩
        · rw [show (j + 1) * 3 = j * 3 + 1 + 1 + 1 by omega]; exact h1
        · rw [show (j + 1) * 3 + 1 = (j * 3 + 1) + 1 + 1 + 1 by omega]; exact h2
        · rw [show (j + 1) * 3 + 2 = (j * 3 + 2) + 1 + 1 + 1 by omega]; exact h3
  rcases h.2 with ⟨rfl, hn⟩ | ⟨g, cap, cur, rfl, hB, hg, hn, hm, hs, ht⟩
  · have : l = [] := List.eq_nil_of_length_eq_zero hn
    subst this
    exact ⟨none, 0, rfl, Nat.zero_le _, fun _ => rfl, fun b hb => by cases hb⟩
  · refine ⟨_, cap, rfl, hl, (fun e => by cases e), fun b hb _ => ?_⟩
    injection hb with hb
    subst hb
    refine ⟨g, 0, rfl, lt_of_block hg, fun j p hp => ?_⟩
    obtain ⟨c0, c1, c2⟩ := get3 l j p hp
    have f := fun i u (hu : (Ve.cs3 l)[i]? = some u) => (show w.cell? ⟨g, i, none⟩ = some u from by
      have := h.cells (g := g) rfl i u hu
      rwa [add_addr, Nat.zero_add] at this)
    rw [Nat.zero_add]
    exact ⟨f _ _ c0, f _ _ c1, f _ _ c2⟩
/-- The same, and a row that is none of the second one's. -/
structure CM (w0 w : World) (ba bb : Nat) (A B : Nat → List O) (v : Value) (l : List O) : Prop where
  bel : Below w0.heap.size w0 w
  st : ∃ sa sb : HS, HK w w0.heap.size ba sa ∧ sa.md = true ∧ sa.bs = zs ∧ sa.L = A ∧ HK w w0.heap.size bb sb ∧ sb.md = true ∧ sb.bs = zs ∧ sb.L = B ∧ (∀ k, HasH ba sa k → ¬ HasH bb sb k) ∧ Apart bb sb v
  row : w.ownsRow w0.heap.size 40 9 v l.length (cs9 l)
theorem CM.cc {w0 w : World} {ba bb : Nat} {A B : Nat → List O} {v : Value} {l : List O} (h : CM w0 w ba bb A B v l) : CC w0 w ba bb A B := by
  obtain ⟨h0, ⟨sa, sb, h1, h2, h3, h4, h5, h6, h7, h8, h9, _⟩, _⟩ := h
  exact ⟨h0, sa, sb, h1, h2, h3, h4, h5, h6, h7, h8, h9⟩
theorem CC.cm {w0 w w' : World} {ba bb : Nat} {A B : Nat → List O} (h : CC w0 w ba bb A B) {v : Value} {l : List O} (hr : RowO w w' v l) : CM w0 w' ba bb A B v l := by
  obtain ⟨h0, sa, sb, h1, h2, h3, h4, h5, h6, h7, h8, h9⟩ := h
  refine ⟨h0.trans (hr.2.mono h0.size), ⟨sa, sb, h1.step hr.2, h2, h3, h4, h5.step hr.2, h6, h7, h8, h9, fun k hk q => ?_⟩, Ve.own_less hr.1 h0.size⟩
  have h1 := (own_lt hr.1 k hk).1
  have h2 := (h5.base k q).2
  omega
theorem CM.put {w0 w : World} {ba bb : Nat} {A B : Nat → List O} {v : Value} {l : List O} (h : CM w0 w ba bb A B v l) (m : Nat) (g : Gd zs B m) (hm : m ≤ 999) (o : O) (hz : o.nm.size ≤ 1000000) :
    Calls Tryd.prog 13 #[pv bb, oV o] w fun e w' => e = .returned (.int .i64 (putI zs B o)) ∧ CM w0 w' ba bb A (putL zs B o) v l := by
  obtain ⟨h0, ⟨sa, sb, h1, h2, h3, h4, h5, h6, h7, rfl, h9, hap⟩, hrow⟩ := h
  have P := put_any w w0.heap.size bb sb m h5 h6 (by rw [h7]; exact g) hm h0.size o hz
  rw [h7] at P
  refine P.mono ?_
  rintro e w' ⟨t, rfl, ho, k1, k2, k3⟩
  rw [h7] at k2 k3
  have hlt := own_lt hrow
  refine ⟨rfl, h0.trans (ho.below h5 h0.size), ⟨sa, t, h1.still ho.far (fun k q q2 => h9 k q q2), h2, h3, h4, ho.hk, k1, k2, k3, fun k q q2 => ?_, hap.out ho (fun k hk => (hlt k hk).2)⟩, ho.far.row hrow (fun j e => hap j e)⟩
  rcases ho.sub k q2 with q2 | q2
  · exact h9 k q q2
  · have := (h1.base k q).2; omega
theorem HK.less {w : World} {B B' b : Nat} {s : HS} (h : HK w B b s) (hB : B' ≤ B) : HK w B' b s := ⟨h.box, Nat.le_trans hB h.bd, h.len, fun i hi => Ve.own_less (h.rows i hi) hB, h.far⟩
theorem CC.new {w w1 w2 : World} {ba bb : Nat} (h1 : HK w1 w.heap.size ba (hs0 true zs)) (b1 : Below w.heap.size w w1) (h2 : HK w2 w1.heap.size bb (hs0 true zs)) (b2 : Below w1.heap.size w1 w2) : CC w w2 ba bb nilL nilL := by
  refine ⟨b1.trans (b2.mono b1.size), hs0 true zs, hs0 true zs, h1.step b2, rfl, rfl, rfl, h2.less b1.size, rfl, rfl, rfl, fun k q q2 => ?_⟩
  have e1 : k = ba := by
    rcases q with q | ⟨i, _, e⟩
    · exact q
    · cases e
  have e2 : k = bb := by
    rcases q2 with q | ⟨i, _, e⟩
    · exact q
    · cases e
  have := h1.blt
  have := h2.bd
  omega
theorem wpList_eq27 {w : World} {ops : Array Oper} {rest : List Oper} {o : Oper} {a : Act} {Q : Exit → Act → World → Prop} (hgd : o.guard = none) (x y : Operand)
    (ho : o.op = .binOp .eql 27 x y 27) (A B : Array Value) (hx : a.eval x = .agg A) (hy : a.eval y = .agg B) (u : Value) (hl : ∀ W, (binOp .eql 27 (.agg A) (.agg B)).run Tryd.prog W = .ok u W)
    (h : wpList Tryd.prog ops Q rest (a.put o.dst u) w) : wpList Tryd.prog ops Q (o :: rest) a w :=
  wpList_plain hgd fun _ hK => by
    unfold Oper.wp execOp
    simp only [ho, hx, hy, eqg27, hl, Sem.run_bind, Sem.run_pure, Result.andThen_ok]
    exact hK _ _ h
theorem runL_mem : ∀ (os : List O), ∀ k, ∀ o ∈ runL os k, o ∈ os := by
  refine snocRec (fun k o ho => by cases ho) (fun os q ih k o ho => ?_)
  rw [runL_snoc] at ho
  rcases putL_cases zs (runL os) q with e | ⟨_, e⟩
  · rw [e] at ho; exact List.mem_append_left _ (ih k o ho)
  · rw [e] at ho
    by_cases hk : k = q.r.toNat
    · subst hk
      rw [fup_same] at ho
      rcases List.mem_append.1 ho with ho | ho
      · exact List.mem_append_left _ (ih _ o ho)
      · exact List.mem_append_right _ ho
    · rw [fup_other _ _ _ _ hk] at ho; exact List.mem_append_left _ (ih k o ho)
theorem eqs27 (l : List Int) (hl : l.length = 64) (W : World) : (binOp .eql 27 (.agg (Ve.va l)) (.agg (Ve.va l))).run Tryd.prog W = .ok (.bool true) W := by
  rw [eql_va W l l hl hl]; simp
theorem OLies.atF {w : World} {ao : Option Addr} {n cap : Nat} {l : List O} (h : OLies w (.slice ao n cap) l) {i : Nat} (hi : i < n) : ∃ g k o, ao = some ⟨g, k, none⟩ ∧ l[i]? = some o ∧ g < w.heap.size ∧ ∀ j u, (oc o)[j]? = some u → w.cell? ⟨g, k + i * 9 + j, none⟩ = some u := by
  obtain ⟨ao', cap', e, hn, hm, h0, hc⟩ := h
  injection e with e1 e2 e3
  subst e1 e2 e3
  cases ao with
  | none => obtain ⟨rfl, _⟩ := h0 rfl; simp at hi
  | some b =>
    obtain ⟨g, k, rfl, hg, hc⟩ := hc b rfl (ne_of_lt hi)
    have hp := List.getElem?_eq_getElem hi
    exact ⟨g, k, _, rfl, hp, hg, hc i _ hp⟩
def opsOf (l : List Ac) : List O := l.map (·.o)
theorem opsOf_get {l : List Ac} {i : Nat} {p : Ac} (h : l[i]? = some p) : (opsOf l)[i]? = some p.o := by unfold opsOf; rw [List.getElem?_map, h]; rfl
theorem long_size {l : List Ac} (h : longB l = false) {i : Nat} (hi : i < 40) {p : Ac} (hp : l[i]? = some p) : p.o.nm.size ≤ 300 := by
  have := List.any_eq_false.1 h p (List.mem_iff_getElem?.2 ⟨i, by rw [List.getElem?_take, if_pos hi, hp]⟩)
  simpa using this
theorem run_step {l : List Ac} {i : Nat} {p : Ac} (h : l[i]? = some p) : runL ((opsOf l).take (i + 1)) = putL zs (runL ((opsOf l).take i)) p.o := by
  rw [Ve.take_snoc' _ i p.o (opsOf_get h), runL_snoc]
theorem run_gd40 (l : List Ac) (i : Nat) (hi : i ≤ 40) : Gd zs (runL ((opsOf l).take i)) 40 := (runL_gd _).mono (by rw [List.length_take]; omega)
theorem lacksR (W : World) (a b : List Int) (ha : a.length = 64) (hb : b.length = 64) : Calls Tryd.prog 23 #[vw a, vw b] W fun e w' => ∃ r, e = .returned r ∧ LiesR w' r (lackF a b 64) ∧ Below W.heap.size W w' :=
  (Ve.lacks_any W a b ha hb).mono fun e w' ⟨r, h1, h2, h3⟩ => ⟨r, h1, own_liesR h2 (Nat.le_trans (lack_len _ _ _) (by omega)), h3⟩
set_option maxHeartbeats 6400000 in
theorem catches_law (w : World) (v : Value) (l : List Ac) (n : Nat) (h : ALies w v l) (hn : n ≤ 255) (ht : Ve.Tab w) :
    Calls Tryd.prog 5 #[v, .int .u8 (n : Int)] w fun e w' => e = .returned (.bool true) ∧ Below w.heap.size w w' := by
  have H := Lib.hid h
  have HT := Lib.hid ht
  have LG := Lib.hid (long_any w v l h)
  have AW := Lib.hid (fun W (hb : Below w.heap.size w W) => awake_any W (Ve.tab_later ht hb))
  have hl : l.length ≤ 9223372036854775807 := by obtain ⟨_, _, _, h, _⟩ := h; exact h
  obtain ⟨ao, cap, rfl⟩ : ∃ ao cap, v = .slice ao l.length cap := by obtain ⟨ao, cap, e, _⟩ := h; exact ⟨ao, cap, e⟩
  clear h ht
  cases hb : longB l with
  | true =>
    rw [hb] at LG
    clear hb
    go_enter Tryd.func5, Tryd.ntmps5
    go_wp2_with fail
    refine LG.out.mono ?_
    rintro e w1 ⟨rfl, rfl⟩
    have A1 := Lib.hid (AW.out w (Below.refl _ _))
    go_wp2_with fail
    refine A1.out.mono ?_
    rintro e w2 ⟨rfl, hb⟩
    have X := Lib.hid hb
    clear hb
    go_wp2
    go_returns
    exact ⟨rfl, X.out⟩
  | false =>
    rw [hb] at LG
    have NM := Lib.hid hb
    have BZ := Lib.hid (fun W => build_va W)
    have NW := Lib.hid (fun W => (show Calls Tryd.prog 10 #[.agg (Ve.va zs)] W fun e w' => ∃ b, e = .returned (.tuple #[pv b, .int .i64 0]) ∧ HK w' W.heap.size b (hs0 true zs) ∧ Below W.heap.size W w' from new_ok W zs zs_len right_zs))
    clear hb
    go_enter Tryd.func5, Tryd.ntmps5
    go_wp2_with fail
    refine LG.out.mono ?_
    rintro e w1 ⟨rfl, rfl⟩
    go_wp2_with (first | refine wpList_build_arr rfl 27 rfl _ (BZ.out _) ?_)
    refine (NW.out _).mono ?_
    rintro e w1 ⟨ba, rfl, h1, b1⟩
    have H1 := Lib.hid h1
    have B1 := Lib.hid b1
    clear h1 b1 LG
    go_wp2_with (first | refine wpList_build_arr rfl 27 rfl _ (BZ.out _) ?_)
    refine (NW.out _).mono ?_
    rintro e w2 ⟨bb, rfl, h2, b2⟩
    have C0 := Lib.hid (CC.new H1.out B1.out h2 b2)
    clear h2 b2 H1 B1 NW BZ
    go_wp2
    go_loopw [9] (fun iv wr => ∃ i : Nat, iv = .int .i64 i ∧ i ≤ l.length ∧ i ≤ 40 ∧ Hid (CC w wr ba bb (runL ((opsOf l).take i)) (runL ((opsOf l).take (min i n))))) (fun iv _ => 40 - (intOf iv).toNat)
    case atStart => exact ⟨0, rfl, Nat.zero_le _, Nat.zero_le _, by rw [Nat.zero_min, List.take_zero]; exact C0⟩
    case round =>
      obtain ⟨i, rfl, hi, hi40, hC⟩ := hrel
      by_cases hlt : i < l.length ∧ i < 40
      · obtain ⟨hl1, hl2⟩ := hlt
        obtain ⟨p, hp⟩ : ∃ p, l[i]? = some p := ⟨_, List.getElem?_eq_getElem hl1⟩
        obtain ⟨g, k, rfl, _, hc, _⟩ := H.out.at hC.out.bel hp
        have LD := Lib.hid (ldO hc)
        have LD2 := Lib.hid (fun W (hb : Below w.heap.size w W) => (show (Instr.loadAt 40 (.pointer (some ⟨g, k + i * 11 + 1, none⟩))).run Tryd.prog W = .ok (oV p.o) W from by
          obtain ⟨g', k', e, _, hc', _⟩ := H.out.at hb hp
          injection e with e; injection e with e1 e2; subst e1 e2
          exact ldO hc'))
        have PA := Lib.hid (hC.out.put 40 (run_gd40 l i (by omega)) (by omega) p.o (by have := long_size NM.out hl2 hp; omega))
        have RS := Lib.hid (run_step hp)
        rw [← RS.out] at PA
        have PB := Lib.hid (fun W (hc : CC w W ba bb (runL ((opsOf l).take (i + 1))) (runL ((opsOf l).take (min i n)))) => hc.swap.put 40 (run_gd40 l (min i n) (by omega)) (by omega) p.o (by have := long_size NM.out hl2 hp; omega))
        have hi0 : (0 : Int) ≤ (i : Int) := by omega
        have hi1 : (i : Int) < (l.length : Int) := by omega
        obtain ⟨OV, hOV⟩ : ∃ OV, oV p.o = OV := ⟨_, rfl⟩
        rw [hOV] at LD LD2 PA PB
        clear hc hp hOV
        go_wp2_with (first | refine wpList_ld rfl (.tmp 45) 40 rfl _ _ rfl LD.out ?_)
        refine PA.out.mono ?_
        rintro e w3 ⟨rfl, h3⟩
        have C3 := Lib.hid h3
        clear h3 PA
        by_cases hin : i < n
        · have hin2 : (i : Int) < (n : Int) := by omega
          have L3 := Lib.hid (LD2.out w3 C3.out.bel)
          have P3 := Lib.hid (PB.out w3 C3.out)
          have E1 := Lib.hid (show putL zs (runL ((opsOf l).take (min i n))) p.o = runL ((opsOf l).take (min (i + 1) n)) by
            rw [show min i n = i by omega, show min (i + 1) n = i + 1 by omega, RS.out])
          rw [E1.out] at P3
          go_wp2_with (first | refine wpList_ld rfl (.tmp 56) 40 rfl _ _ rfl L3.out ?_)
          refine P3.out.mono ?_
          rintro e w4 ⟨rfl, h4⟩
          have C4 := Lib.hid h4.swap
          clear h4 P3
          go_wp2
          go_roundw
          case rel => exact ⟨i + 1, by go_num, by omega, by omega, C4⟩
          case measure => simp [intOf]; omega
        · have hin2 : ¬ ((i : Int) < (n : Int)) := by omega
          have E1 := Lib.hid (show min i n = min (i + 1) n by omega)
          rw [E1.out] at C3
          go_wp2
          go_roundw
          case rel => exact ⟨i + 1, by go_num, by omega, by omega, C3⟩
          case measure => simp [intOf]; omega
      · have hd : (¬ (i : Int) < (l.length : Int)) ∨ ((i : Int) < (l.length : Int) ∧ ¬ (i : Int) < 40) := by
          by_cases h : i < l.length
          · exact .inr ⟨by omega, by omega⟩
          · exact .inl (by omega)
        have GA := Lib.hid (run_gd40 l i hi40)
        have GB := Lib.hid (run_gd40 l (min i n) (by omega))
        have PR := Lib.hid (show ∀ k, runL ((opsOf l).take (min i n)) k <+: runL ((opsOf l).take i) k from fun k => by
          have e := (List.take_append_drop (min i n) ((opsOf l).take i)).symm
          rw [List.take_take, show min (min i n) i = min i n by omega] at e
          conv => rhs; rw [e]
          exact runL_pre _ _ k)
        have RT := Lib.hid (runL_rt ((opsOf l).take i))
        have SZ := Lib.hid (show ∀ k, ∀ o ∈ runL ((opsOf l).take i) k, o.nm.size ≤ 1000000 from fun k o ho => by
          have := runL_mem _ k o ho
          obtain ⟨j, hj⟩ := List.mem_iff_getElem?.1 this
          rw [List.getElem?_take] at hj
          by_cases hji : j < i
          · rw [if_pos hji] at hj
            unfold opsOf at hj
            rw [List.getElem?_map] at hj
            cases hp : l[j]? with
            | none => rw [hp] at hj; cases hj
            | some p => rw [hp] at hj; injection hj with hj; subst hj; have := long_size NM.out (show j < 40 by omega) hp; show p.o.nm.size ≤ 1000000; omega
          · rw [if_neg hji] at hj; cases hj)
        have LN := Lib.hid (show (flat (runL ((opsOf l).take i))).length ≤ 40 from Nat.le_trans (runL_len _) (by rw [List.length_take]; omega))
        generalize runL ((opsOf l).take i) = A at *
        generalize runL ((opsOf l).take (min i n)) = B at *
        clear hlt
        have hcc := hC.out
        have K1 := Lib.hid (show Calls Tryd.prog 24 #[pv bb] wr fun e w' => e = .returned (.agg (Ve.va (kn zs B))) ∧ Below wr.heap.size wr w' from hcc.swap.known 40 GB.out (by omega))
        have K2 := Lib.hid (fun W B (h : CC w W ba bb A B) => (show Calls Tryd.prog 24 #[pv ba] W fun e w' => e = .returned (.agg (Ve.va (kn zs A))) ∧ Below W.heap.size W w' from h.known 40 GA.out (by omega)))
        have LK := Lib.hid (fun W => (show Calls Tryd.prog 23 #[.agg (Ve.va (kn zs B)), .agg (Ve.va (kn zs A))] W fun e w' => ∃ r, e = .returned r ∧ LiesR w' r (lackF (kn zs B) (kn zs A) 64) ∧ Below W.heap.size W w' from lacksR W (kn zs B) (kn zs A) (kn_len _ _) (kn_len _ _)))
        have LK2 := Lib.hid (fun W => (show Calls Tryd.prog 23 #[.agg (Ve.va (kn zs A)), .agg (Ve.va (kn zs A))] W fun e w' => ∃ r, e = .returned r ∧ LiesR w' r [] ∧ Below W.heap.size W w' from by
          have := lacksR W (kn zs A) (kn zs A) (kn_len _ _) (kn_len _ _)
          rwa [lack_self] at this))
        have DL := Nat.le_trans (rest_len A B 64) LN.out
        have TE : takeF A (lackF (kn zs B) (kn zs A) 64) 1000 = restL A B 64 := by
          unfold takeF
          rw [parts_lack GA.out (fun k hk => GB.out.cnt k hk) (by omega) 64 (Nat.le_refl _), List.take_of_length_le (by omega)]
        have TK := Lib.hid (fun W r (h : CC w W ba bb A B) (hr : LiesR W r (lackF (kn zs B) (kn zs A) 64)) => (show Calls Tryd.prog 20 #[pv ba, r, .int .i64 1000] W fun e w' => ∃ q, e = .returned q ∧ RowO W w' q (restL A B 64) from by
          have := h.take 40 GA.out (by omega) r _ hr
          rwa [TE] at this))
        have TK2 := Lib.hid (fun W B r (h : CC w W bb ba B A) (g : Gd zs B 40) (hr : LiesR W r []) => (show Calls Tryd.prog 20 #[pv bb, r, .int .i64 1000] W fun e w' => ∃ q, e = .returned q ∧ RowO W w' q [] from by
          have := h.take 40 g (by omega) r _ hr
          rwa [show takeF B [] 1000 = [] by unfold takeF partsO; simp] at this))
        have EQ := Lib.hid (eqs27 (kn zs A) (kn_len _ _))
        have RES := Lib.hid (fun (B' : Nat → List O) (hp : ∀ k, B' k <+: A k) o r (h : restL A B' 64 = o :: r) => rest_step GA.out RT.out hp o r h)
        have PG := Lib.hid (fun (B' : Nat → List O) (hp : ∀ k, B' k <+: A k) => pre_gd GA.out hp)
        obtain ⟨D, hD⟩ : ∃ D, restL A B 64 = D := ⟨_, rfl⟩
        rw [hD] at TK DL
        have HD := Lib.hid hD
        have KC := Lib.hid (fun W B' (h : CC w W bb ba B' A) (g : Gd zs B' 40) (he : ∀ k, k < 64 → B' k = A k) => (show Calls Tryd.prog 24 #[pv bb] W fun e w' => e = .returned (.agg (Ve.va (kn zs A))) ∧ Below W.heap.size W w' from by
          have := h.known 40 g (by omega)
          rwa [kn_congr he] at this))
        have AC := Lib.hid (fun W B' (h : CC w W bb ba B' A) (g : Gd zs B' 40) (he : ∀ k, k < 64 → B' k = A k) => (show Calls Tryd.prog 25 #[pv bb] W fun e w' => ∃ r, e = .returned r ∧ RowO W w' r (flat A) from by
          have := h.all 40 g (by omega)
          rwa [flat_congr he] at this))
        have AA := Lib.hid (fun W B (h : CC w W ba bb A B) => h.all 40 GA.out (by omega))
        have SM := Lib.hid (fun W r1 r2 (h1 : OLies W r1 (flat A)) (h2 : OLies W r2 (flat A)) => (show Calls Tryd.prog 19 #[r1, r2] W fun e w' => e = .returned (.bool true) ∧ Below W.heap.size W w' from by
          have := rsameO_any W r1 r2 _ _ h1 h2
          rwa [sameO_self] at this))
        obtain ⟨Z, hZ⟩ : ∃ Z, Ve.va (kn zs A) = Z := ⟨_, rfl⟩
        rw [hZ] at K2 LK LK2 EQ KC
        obtain ⟨Y, hY⟩ : ∃ Y, Ve.va (kn zs B) = Y := ⟨_, rfl⟩
        rw [hY] at K1 LK
        clear hZ hY TE hcc hD
        rcases hd with hd | ⟨hd, hd2⟩
        all_goals
          go_wp2_with fail
          refine K1.out.mono ?_
          rintro e w3 ⟨rfl, hb⟩
          have C3 := Lib.hid (hC.out.step hb)
          clear hb
          go_wp2_with fail
          refine (K2.out _ _ C3.out).mono ?_
          rintro e w4 ⟨rfl, hb⟩
          have C4 := Lib.hid (C3.out.step hb)
          clear hb
          go_wp2_with fail
          refine (LK.out _).mono ?_
          rintro e w5 ⟨r, rfl, hr, hb⟩
          have C5 := Lib.hid (C4.out.step hb)
          have R5 := Lib.hid hr
          clear hb hr
          go_wp2_with fail
          refine (TK.out _ _ C5.out R5.out).mono ?_
          rintro e w6 ⟨rm, rfl, hrow⟩
          obtain ⟨ma, mc, rfl⟩ := Ve.own_shape hrow.1
          have M6 := Lib.hid (C5.out.cm hrow)
          clear hrow R5 TK LK K1
          go_wp2
          go_loopw [11] (fun iv wr => ∃ j : Nat, iv = .int .i64 j ∧ j ≤ D.length ∧ Hid (∃ B', CM w wr ba bb A B' (.slice ma D.length mc) D ∧ (∀ k, B' k <+: A k) ∧ restL A B' 64 = D.drop j)) (fun iv _ => D.length - (intOf iv).toNat)
          case atStart => exact ⟨0, rfl, Nat.zero_le _, Lib.hid ⟨B, M6.out, PR.out, by rw [List.drop_zero]; exact HD.out⟩⟩
          case round =>
            obtain ⟨j, rfl, hj, hI⟩ := hrel
            obtain ⟨B', hM, hpre, hrest⟩ := hI.out
            by_cases hlt : j < D.length
            · obtain ⟨g, k, o, rfl, ho, hg, hc⟩ := (own_olies hM.row).atF hlt
              have hdr : D.drop j = o :: D.drop (j + 1) := by
                obtain ⟨h1, h2⟩ := List.getElem?_eq_some_iff.1 ho
                rw [List.drop_eq_getElem_cons h1, h2]
              rw [hdr] at hrest
              obtain ⟨z0, z1, z2⟩ := RES.out B' hpre o _ hrest
              have hmem : ∃ k, o ∈ A k := by
                have : o ∈ restL A B' 64 := by rw [hrest]; exact List.mem_cons_self ..
                obtain ⟨k, _, hk⟩ := List.mem_flatMap.1 this
                exact ⟨k, List.mem_of_mem_drop hk⟩
              obtain ⟨k2, hk2⟩ := hmem
              have P := Lib.hid (hM.put 40 (PG.out B' hpre) (by omega) o (SZ.out k2 o hk2))
              rw [z0] at P
              have LD := Lib.hid (ldO hc)
              have Z12 := Lib.hid (And.intro z1 z2)
              have hj0 : (0 : Int) ≤ (j : Int) := by omega
              have hj1 : (j : Int) < (D.length : Int) := by omega
              obtain ⟨OV, hOV⟩ : ∃ OV, oV o = OV := ⟨_, rfl⟩
              rw [hOV] at LD P
              clear hc hM hpre hrest hdr z0 z1 z2 hk2 ho hI hOV
              go_wp2_with (first | refine wpList_ld rfl (.tmp 75) 40 rfl _ _ rfl LD.out ?_)
              refine P.out.mono ?_
              rintro e w7 ⟨rfl, h7⟩
              have M7 := Lib.hid h7
              clear h7 P
              go_wp2
              go_roundw
              case rel => exact ⟨j + 1, by go_num, by omega, Lib.hid ⟨_, M7.out, Z12.out.1, Z12.out.2⟩⟩
              case measure => simp [intOf]; omega
            · have hnil : restL A B' 64 = [] := by rw [hrest, List.drop_of_length_le (by omega)]
              have he := rest_nil hpre hnil
              have gB := PG.out B' hpre
              have Q0 := Lib.hid hM.cc
              have Q1 := Lib.hid (K2.out wr B' Q0.out)
              have KCB := Lib.hid (fun W (h : CC w W ba bb A B') => KC.out W B' h.swap gB he)
              have ACB := Lib.hid (fun W (h : CC w W ba bb A B') => AC.out W B' h.swap gB he)
              have TKB := Lib.hid (fun W r (h : CC w W ba bb A B') hr => TK2.out W B' r h.swap gB hr)
              have hnj : ¬ ((j : Int) < (D.length : Int)) := by omega
              clear hM hpre hrest hnil he gB hI
              go_wp2_with fail
              refine Q1.out.mono ?_
              rintro e x1 ⟨rfl, hb⟩
              have C1 := Lib.hid (Q0.out.step hb)
              clear hb
              go_wp2_with fail
              refine (KCB.out _ C1.out).mono ?_
              rintro e x2 ⟨rfl, hb⟩
              have C2 := Lib.hid (C1.out.step hb)
              clear hb
              go_wp2_with (first | refine wpList_eq27 rfl (.tmp 80) (.tmp 82) rfl _ _ rfl rfl _ EQ.out ?_)
              refine (AA.out _ _ C2.out).mono ?_
              rintro e x3 ⟨r1, rfl, hr1⟩
              have C3 := Lib.hid (C2.out.step hr1.2)
              have O3 := Lib.hid (own_olies hr1.1)
              clear hr1
              go_wp2_with fail
              refine (ACB.out _ C3.out).mono ?_
              rintro e x4 ⟨r2, rfl, hr2⟩
              have C4 := Lib.hid (C3.out.step hr2.2)
              have O4 := Lib.hid (own_olies hr2.1)
              have O34 := Lib.hid (O3.out.step hr2.2)
              clear hr2
              go_wp2_with fail
              refine (SM.out _ _ _ O34.out O4.out).mono ?_
              rintro e x5 ⟨rfl, hb⟩
              have C5 := Lib.hid (C4.out.step hb)
              clear hb
              go_wp2_with fail
              refine (KCB.out _ C5.out).mono ?_
              rintro e x6 ⟨rfl, hb⟩
              have C6 := Lib.hid (C5.out.step hb)
              clear hb
              go_wp2_with fail
              refine (K2.out _ _ C6.out).mono ?_
              rintro e x7 ⟨rfl, hb⟩
              have C7 := Lib.hid (C6.out.step hb)
              clear hb
              go_wp2_with fail
              refine (LK2.out _).mono ?_
              rintro e x8 ⟨r8, rfl, hr8, hb⟩
              have C8 := Lib.hid (C7.out.step hb)
              have R8 := Lib.hid hr8
              clear hb hr8
              go_wp2_with fail
              refine (TKB.out _ _ C8.out R8.out).mono ?_
              rintro e x9 ⟨r9, rfl, hr9⟩
              have C9 := Lib.hid (C8.out.step hr9.2)
              obtain ⟨a9, c9, rfl⟩ := Ve.own_shape hr9.1
              have A9 := Lib.hid (AW.out x9 C9.out.bel)
              clear hr9
              go_wp2_with fail
              refine A9.out.mono ?_
              rintro e x10 ⟨rfl, hb⟩
              have X := Lib.hid (C9.out.bel.trans (hb.mono C9.out.bel.size))
              clear hb
              go_wp2
              go_returns
              exact ⟨rfl, X.out⟩
end Go.Proofs.YtgnnpfainoppeaaDoor
