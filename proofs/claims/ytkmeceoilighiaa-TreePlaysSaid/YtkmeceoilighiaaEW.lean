/- The chapter's example, walked: awake. -/
import Derived.Test.YtkmeceoilighiaaEX
import Derived.Test.YtkmeceoilighiaaEH
set_option linter.unusedVariables false
set_option linter.unusedSimpArgs false
set_option maxRecDepth 100000
namespace Go.Proofs.Ytkmeceoilighiaa
open Go.RowKit Go.Shelf
open Tb (Rw setF dropF getF aboveF Rise TabI TM LiesK)

/-- The example's tree behind so many ops. -/
structure EX (w2 W : World) (p q mb i : Nat) : Prop where
  bel : Below w2.heap.size w2 W
  tree : ∃ la lc, TreeI W w2.heap.size p q mb [] 0 0 (exL i) la lc
theorem TreeI.ne {w : World} {B p q mb : Nat} {T0 : List Rw} {ft fr : Int} {L : List O} {la : Option Addr} {lc : Nat} (h : TreeI w B p q mb T0 ft fr L la lc) : p ≠ q ∧ p ≠ mb := ⟨cell_ne h.box h.tab.box (by decide), map_ne h.box h.tab.map⟩
theorem Far.belowT {w w' : World} {B p q mb : Nat} {T0 : List Rw} {ft fr : Int} {L : List O} {la : Option Addr} {lc : Nat} (h : TreeI w B p q mb T0 ft fr L la lc) (hf : Far (HasT p mb la) w w') : Below B w w' :=
  hf.below (Nat.le_of_lt (Nat.lt_of_le_of_lt h.lo.1 h.plt)) (fun k hk => (h.has hk).1)
theorem ex_did6 : didF (stepsF [] (exL 4)) 6 0 = false := rfl
theorem ex_did5 : didF (stepsF [] (exL 4)) 5 1 = true := rfl
theorem ex_wrap {i : Nat} (hi : i < 4) : wrap64 (exN (i + 1)) = exN (i + 1) := by
  have : 0 ≤ exN (i + 1) ∧ exN (i + 1) ≤ 3 := by
    match i, hi with
    | 0, _ => decide
    | 1, _ => decide
    | 2, _ => decide
    | 3, _ => decide
  unfold wrap64
  omega
theorem TreeI.tells {w : World} {B p q mb : Nat} {T0 : List Rw} {ft fr : Int} {L : List O} {la : Option Addr} {lc : Nat} (h : TreeI w B p q mb T0 ft fr L la lc) (t r : Int) (ht : Tb.I64 t) (hr : Tb.I64 r) : Tells w 56 #[.pointer (some ⟨q, 0, none⟩), .agg #[.int .i64 t, .int .i64 r]] (.tuple #[Tb.gv (playF T0 L) t r, .bool (getF (playF T0 L) t r).isSome]) :=
  fun W hW => Tb.get_any W q mb _ (h.tab.step hW) t r ht hr
theorem TreeI.tellsA {w : World} {B p q mb : Nat} {T0 : List Rw} {ft fr : Int} {L : List O} {la : Option Addr} {lc : Nat} (h : TreeI w B p q mb T0 ft fr L la lc) (hl : T0.length + L.length < 100000) (a b t r : Int) (ht : Tb.I64 t) (hr : Tb.I64 r) : Tells w 35 #[.pointer (some ⟨q, 0, none⟩), .agg #[.int .i64 a, .int .i64 b], .agg #[.int .i64 t, .int .i64 r]] (.bool (aboveF (playF T0 L) a b (playF T0 L).length t r)) :=
  fun W hW => Tb.above_any W q mb _ (h.tab.step hW) (by have := play_len L T0; omega) a b t r ht hr
theorem TreeI.did {w : World} {B p q mb : Nat} {T0 : List Rw} {ft fr : Int} {L : List O} {la : Option Addr} {lc : Nat} (h : TreeI w B p q mb T0 ft fr L la lc) (hu : RiseO L) (hl : L.length ≤ 100000) (t r : Int) : Calls Try.prog 19 #[pv p, .agg #[.int .i64 t, .int .i64 r]] w fun e w' => e = .returned (.bool (didF (stepsF T0 L) t r)) ∧ Below w.heap.size w w' :=
  did_of w (pv p) _ ft fr la L.length lc (stepsF T0 L) t r h.haveL (lies_log h) (by rw [steps_o]; exact hu) (by rw [steps_len]; exact hl)
theorem two_i64 : Tb.I64 2 ∧ Tb.I64 1 ∧ Tb.I64 6 ∧ Tb.I64 5 ∧ Tb.I64 0 := by unfold Tb.I64; decide
set_option maxHeartbeats 3200000 in
theorem awake_any (w : World) : Calls Try.prog 9 #[] w fun e w' => e = .returned (.bool true) ∧ Below w.heap.size w w' := by
  have NW := Lib.hid (fun W => new_of W)
  have B1 := pl_vstep w (.cells #[.int .i64 1, .int .i64 0] 24)
  have N1 := heap_alloc_new w (.cells #[.int .i64 1, .int .i64 0] 24)
  have z1 : (w.alloc (.cells #[.int .i64 1, .int .i64 0] 24)).heap.size = w.heap.size + 1 := by simp
  go_enter Try.func9, Try.ntmps9
  go_upto_region 3 with (fail)
  change Code.wp _ _ _ _ (((w.alloc (.cells #[.int .i64 1, .int .i64 0] 24)).alloc (.cells #[.int .i64 2, .int .i64 0] 24)).alloc (.cells (cs9 exAll).toArray 34))
  generalize w.alloc (.cells #[.int .i64 1, .int .i64 0] 24) = wa at B1 N1 z1 ⊢
  have B2 := pl_vstep wa (.cells #[.int .i64 2, .int .i64 0] 24)
  have N2 := heap_alloc_new wa (.cells #[.int .i64 2, .int .i64 0] 24)
  have z2 : (wa.alloc (.cells #[.int .i64 2, .int .i64 0] 24)).heap.size = w.heap.size + 1 + 1 := by simp [z1]
  rw [z1] at N2
  generalize wa.alloc (.cells #[.int .i64 2, .int .i64 0] 24) = wb at B2 N2 z2 ⊢
  have B3 := pl_vstep wb (.cells (cs9 exAll).toArray 34)
  have OW := World.ownsRow_lit (base := wb.heap.size) (e := 34) (size := 9) wb (cs9 exAll).toArray 4 (Nat.le_refl _) (by unfold maxLen; omega) rfl
  rw [z2] at OW
  generalize wb.alloc (.cells (cs9 exAll).toArray 34) = w2 at B3 OW ⊢
  have OL0 : OLies w2 (.slice (some ⟨w.heap.size + 1 + 1, 0, none⟩) 4 4) exAll := own_olies (l := exAll) OW
  have N1 := ((B2.trans (B3.mono B2.size)).block _ (pl_lt N1)).trans N1
  have N2 := (B3.block _ (pl_lt N2)).trans N2
  have BW := Lib.hid (B1.trans ((B2.trans (B3.mono B2.size)).mono B1.size))
  have SA := Lib.hid (fun W (hW : Below w2.heap.size w2 W) => (show (W.cell? ⟨w.heap.size, 0, none⟩ = some (.int .i64 1) ∧ W.cell? ⟨w.heap.size, 1, none⟩ = some (.int .i64 0)) ∧ W.cell? ⟨w.heap.size + 1, 0, none⟩ = some (.int .i64 2) ∧ W.cell? ⟨w.heap.size + 1, 1, none⟩ = some (.int .i64 0) from by
    have n1 := (hW.block _ (pl_lt N1)).trans N1
    have n2 := (hW.block _ (pl_lt N2)).trans N2
    refine ⟨⟨?_, ?_⟩, ?_, ?_⟩
    · rw [cell_of_row _ _ _ _ _ _ n1]; rfl
    · rw [cell_of_row _ _ _ _ _ _ n1]; rfl
    · rw [cell_of_row _ _ _ _ _ _ n2]; rfl
    · rw [cell_of_row _ _ _ _ _ _ n2]; rfl))
  have LO := Lib.hid (fun W (hW : Below w2.heap.size w2 W) i (hi : i < 4) => (show (Instr.loadAt 34 (.pointer (some ⟨w.heap.size + 1 + 1, i * 9, none⟩))).run Try.prog W = .ok (oV (exO i)) W from by
    obtain ⟨ao, cap, e, _, _, _, hc⟩ := OL0.step hW
    injection e with e1 _ _
    subst e1
    obtain ⟨g, k, e, _, hc⟩ := hc _ rfl (by unfold exAll; simp)
    injection e with e1 e2 _
    subst e1 e2
    refine ldO (fun j u hu => ?_)
    have := hc i _ (ex_at hi) j u hu
    rwa [Nat.zero_add] at this))
  clear B1 B2 B3 N1 N2 z1 z2 OW OL0
  go_wp2_with fail
  refine (NW.out w2).mono ?_
  rintro e w3 ⟨p, q, mb, rfl, ht, hb⟩
  have E0 := Lib.hid (show EX w2 w3 p q mb 0 from ⟨hb, none, 0, ht⟩)
  clear ht hb NW
  go_wp2_with fail
  go_loopw [5, 6] (fun nv iv wr => ∃ i : Nat, nv = .int .i64 (exN i) ∧ iv = .int .i64 i ∧ i ≤ 4 ∧ Hid (EX w2 wr p q mb i)) (fun _ iv _ => 4 - (intOf iv).toNat)
  case atStart => exact ⟨0, rfl, rfl, by omega, E0⟩
  case round =>
    obtain ⟨i, rfl, rfl, hi, K⟩ := hrel
    by_cases hlt : i < 4
    · obtain ⟨la, lc, ht⟩ := K.out.tree
      have AD := add_any wr w2.heap.size p q mb [] 0 0 (exL i) la lc ht (ex_rise i hi) (ex_okL i hi) okT_nil (by rw [ex_len hi]; simp; omega) (Nat.le_of_lt (Nat.lt_of_le_of_lt ht.lo.1 ht.plt)) (exO i) (ex_ok hlt) (ex_sz hlt)
      rw [ex_addE hlt] at AD
      have hN := ex_addN hlt
      have hW9 := ex_wrap hlt
      obtain ⟨nn, hnn⟩ : ∃ z, addN 0 0 (exL i) (exO i) = z := ⟨_, rfl⟩
      rw [hnn] at AD hN
      have AD := Lib.hid AD
      have HTW := Lib.hid ht
      have LX := Lib.hid (LO.out wr K.out.bel i hlt)
      have HLT := Lib.hid hlt
      have hi0 : (0 : Int) ≤ (i : Int) := by omega
      have hi1 : (i : Int) < 4 := by omega
      have hd : decide ((i : Int) < 4) = true := decide_eq_true hi1
      obtain ⟨ni, hni⟩ : ∃ z, exN i = z := ⟨_, rfl⟩
      obtain ⟨nj, hnj⟩ : ∃ z, exN (i + 1) = z := ⟨_, rfl⟩
      rw [hni] at hN ⊢
      rw [hnj] at hN hW9
      have HNJ := Lib.hid hnj
      have hnw : wrap64 (ni + nn) = nj := by rw [hN]; exact hW9
      have HNW := Lib.hid hnw
      obtain ⟨OX, hOX⟩ : ∃ z, oV (exO i) = z := ⟨_, rfl⟩
      rw [hOX] at AD LX
      have HP := Lib.hid (ex_put hlt)
      clear hnn hN hW9 hni hnj hOX ht
      go_wp2_with (first | (refine Ve.wpList_load_arr rfl (.tmp 39) 34 rfl (.pointer (some ⟨w.heap.size + 1 + 1, i * 9, none⟩)) OX rfl LX.out ?_))
      refine AD.out.mono ?_
      rintro e w5 ⟨rfl, hr⟩
      have K5 := Lib.hid (show EX w2 w5 p q mb (i + 1) from by
        rcases hr with ⟨h0, _⟩ | ⟨_, hf, g, lc', ht', _⟩
        · exact absurd rfl h0
        · rw [HP.out] at ht'
          exact ⟨K.out.bel.trans (hf.belowT HTW.out), _, _, ht'⟩)
      clear hr
      go_wp2
      go_roundw
      case rel => exact ⟨i + 1, by rw [HNW.out, HNJ.out], by go_num, by have := HLT.out; omega, K5⟩
      case measure => have := HLT.out; simp [intOf]; omega
    · have ei : i = 4 := by omega
      subst ei
      obtain ⟨la, lc, ht⟩ := K.out.tree
      obtain ⟨h2, h1, h6, h5, h0⟩ := two_i64
      have GT := Lib.hid (get_of wr (pv p) _ 0 0 la _ lc 2 0 0 0 ⟨#[98]⟩ true true ht.haveL (ht.tells 2 0 h2 h0))
      have HTW := Lib.hid ht
      obtain ⟨⟨s0, s1⟩, s2, s3⟩ := SA.out wr K.out.bel
      clear ht
      rw [show exN 4 = 3 from rfl]
      go_wp2_with fail
      refine GT.out.mono ?_
      rintro e w5 ⟨rfl, hb⟩
      have hb6 := hb.trans ((pl_vstep w5 (.cells #[.int .i64 0, .int .i64 0, .string ⟨#[98]⟩, .bool true] 69)).mono hb.size)
      have T6 := Lib.hid (HTW.out.step hb6)
      have K6 := Lib.hid (K.out.bel.trans (hb6.mono K.out.bel.size))
      have N6 := Lib.hid (heap_alloc_new w5 (.cells #[.int .i64 0, .int .i64 0, .string ⟨#[98]⟩, .bool true] 69))
      clear hb hb6 s0 s1 s2 s3
      go_upto_region 13 with (fail)
      generalize w5.alloc (.cells #[.int .i64 0, .int .i64 0, .string ⟨#[98]⟩, .bool true] 69) = w6 at T6 K6 N6 ⊢
      obtain ⟨k6, hk6⟩ : ∃ z, w5.heap.size = z := ⟨_, rfl⟩
      rw [hk6] at N6 ⊢
      clear hk6
      have c0 : w6.cell? ⟨k6, 0, none⟩ = some (.int .i64 0) := by rw [cell_of_row _ _ _ _ _ _ N6.out]; rfl
      have c1 : w6.cell? ⟨k6, 1, none⟩ = some (.int .i64 0) := by rw [cell_of_row _ _ _ _ _ _ N6.out]; rfl
      obtain ⟨⟨s0, s1⟩, s2, s3⟩ := SA.out w6 K6.out
      have AB := Lib.hid (above_of w6 (pv p) _ 0 0 la _ lc 2 0 1 0 true T6.out.haveL (T6.out.tellsA (by rw [ex_len (by omega)]; simp) 2 0 1 0 h1 h0))
      have D6 := Lib.hid (fun W (hb : Below w6.heap.size w6 W) => (T6.out.step hb).did (ex_rise 4 (by omega)) (by rw [ex_len (by omega)]; omega) 6 0)
      have D5 := Lib.hid (fun W (hb : Below w6.heap.size w6 W) => (T6.out.step hb).did (ex_rise 4 (by omega)) (by rw [ex_len (by omega)]; omega) 5 1)
      rw [ex_did6] at D6
      rw [ex_did5] at D5
      go_wp2_with fail
      refine AB.out.mono ?_
      rintro e w7 ⟨rfl, hb⟩
      have B7 := Lib.hid hb
      clear hb c0 c1 s0 s1 s2 s3
      go_wp2_with fail
      refine (D6.out w7 B7.out).mono ?_
      rintro e w8 ⟨rfl, hb⟩
      have B8 := Lib.hid (B7.out.trans (hb.mono B7.out.size))
      clear hb
      go_wp2_with fail
      refine (D5.out w8 B8.out).mono ?_
      rintro e w9 ⟨rfl, hb⟩
      have B9 := Lib.hid (B8.out.trans (hb.mono B8.out.size))
      clear hb
      go_wp2
      go_returns
      exact ⟨rfl, BW.out.trans ((K6.out.trans (B9.out.mono K6.out.size)).mono BW.out.size)⟩
end Go.Proofs.Ytkmeceoilighiaa
