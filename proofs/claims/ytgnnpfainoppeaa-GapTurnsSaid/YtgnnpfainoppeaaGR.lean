/- The law's calls; long. -/
import Derived.Test.YtgnnpfainoppeaaGQ
set_option linter.unusedVariables false
set_option linter.unusedSimpArgs false
set_option maxRecDepth 100000
namespace Go.Proofs.Ytgnnpfainoppeaa
open Go.RowKit Go.WideMaps Go.Maps
open Ve (zs zs_len vw va RightP cs3 cs3_append LiesO madeF)

structure GA where
  kd : Int
  va : Option Addr
  vn : Nat
  vc : Nat
  vl : List (Nat × Int)
  o : O
  m : Int
def GA.v (a : GA) : Value := .slice a.va a.vn a.vc
def gaC (a : GA) : List Value := .int .i64 a.kd :: a.v :: (oc a.o ++ [.int .i64 a.m])
def ALies (w : World) (v : Value) (l : List GA) : Prop := ∃ ao cap, v = .slice ao l.length cap ∧ l.length ≤ 9223372036854775807 ∧ (ao = none → l = []) ∧
  (∀ b, ao = some b → l ≠ [] → ∃ g k, b = ⟨g, k, none⟩ ∧ g < w.heap.size ∧ ∀ (j : Nat) p, l[j]? = some p → ∀ i u, (gaC p)[i]? = some u → w.cell? ⟨g, k + j * 12 + i, none⟩ = some u) ∧ ∀ p ∈ l, LiesO w p.v p.vl
theorem ALies.at {w w' : World} {ao : Option Addr} {n cap : Nat} {l : List GA} (h : ALies w (.slice ao n cap) l) (hb : Below w.heap.size w w') {i : Nat} {p : GA} (hp : l[i]? = some p) :
    ∃ g k, ao = some ⟨g, k, none⟩ ∧ w'.cell? ⟨g, k + i * 12, none⟩ = some (.int .i64 p.kd) ∧ w'.cell? ⟨g, k + i * 12 + 1, none⟩ = some p.v ∧ (∀ j u, (oc p.o)[j]? = some u → w'.cell? ⟨g, k + i * 12 + 2 + j, none⟩ = some u) ∧ w'.cell? ⟨g, k + i * 12 + 11, none⟩ = some (.int .i64 p.m) := by
  obtain ⟨ao', cap', e, _, h1, h2, _⟩ := h
  injection e with e1 e2 e3
  subst e1
  cases ao with
  | none => rw [h1 rfl] at hp; cases hp
  | some b =>
    obtain ⟨g, k, rfl, hg, hc⟩ := h2 b rfl (by rintro rfl; cases hp)
    have hc' := fun j u hu => (hb.cell (p := ⟨g, k + i * 12 + j, none⟩) hg).trans (hc i p hp j u hu)
    refine ⟨g, k, rfl, hc' 0 _ rfl, hc' 1 _ rfl, fun j u hj => ?_, hc' 11 _ rfl⟩
    have hj9 : j < 9 := by have := (List.getElem?_eq_some_iff.1 hj).1; rwa [oc_len] at this
    have := hc' (2 + j) u (by unfold gaC; rw [show 2 + j = j + 1 + 1 by omega, List.getElem?_cons_succ, List.getElem?_cons_succ, List.getElem?_append_left (by rw [oc_len]; exact hj9)]; exact hj)
    rwa [← Nat.add_assoc] at this
theorem ALies.known {w w' : World} {v : Value} {l : List GA} (h : ALies w v l) (hb : Below w.heap.size w w') {i : Nat} {p : GA} (hp : l[i]? = some p) : LiesO w' p.v p.vl := by
  obtain ⟨ao, cap, e, _, _, _, h3⟩ := h
  obtain ⟨ao, cap, e, h1, h2, h3⟩ := h3 p (List.mem_of_getElem? hp)
  refine ⟨ao, cap, e, h1, h2, fun b hb1 hne => ?_⟩
  obtain ⟨g, k, e1, hg, hc⟩ := h3 b hb1 hne
  refine ⟨g, k, e1, Nat.lt_of_lt_of_le hg hb.size, fun j q hq => ?_⟩
  obtain ⟨c0, c1, c2⟩ := hc j q hq
  exact ⟨c0, (hb.cell (p := ⟨g, k + j * 2, none⟩) hg).trans c1, (hb.cell (p := ⟨g, k + j * 2 + 1, none⟩) hg).trans c2⟩
noncomputable def rightB (l : List Int) : Bool := @decide (RightP l) (Classical.propDecidable _)
theorem rightB_iff {l : List Int} : rightB l = true ↔ RightP l := by unfold rightB; simp
theorem made_len (l : List (Nat × Int)) : (madeF l).length = 64 := by unfold madeF; rw [Ve.foldO_len, zs_len]
noncomputable def badA (a : GA) : Bool := decide (300 < a.o.nm.size) || !rightB (madeF a.vl)
noncomputable def longB (l : List GA) : Bool := (l.take 40).any badA
theorem longB_no {l : List GA} (h : longB l = false) {i : Nat} (hi : i < 40) {p : GA} (hp : l[i]? = some p) : p.o.nm.size ≤ 300 ∧ RightP (madeF p.vl) := by
  have := List.any_eq_false.1 h p (List.mem_iff_getElem?.2 ⟨i, by rw [List.getElem?_take, if_pos hi, hp]⟩)
  unfold badA at this
  simp at this
  exact ⟨this.1, rightB_iff.1 this.2⟩
theorem ldK {W : World} {g o : Nat} {a : Option Addr} {n c : Nat} (h0 : W.cell? ⟨g, o, none⟩ = some (.slice a n c)) : (Instr.loadAt 31 (.pointer (some ⟨g, o, none⟩))).run Try.prog W = .ok (.slice a n c) W := by
  go_simp
set_option maxHeartbeats 3200000 in
theorem long_any (w : World) (v : Value) (l : List GA) (h : ALies w v l) : Calls Try.prog 6 #[v] w fun e w' => e = .returned (.bool (longB l)) ∧ Below w.heap.size w w' := by
  have H := Lib.hid h
  have hl : l.length ≤ 9223372036854775807 := by obtain ⟨_, _, _, h, _⟩ := h; exact h
  obtain ⟨ao, cap, rfl⟩ : ∃ ao cap, v = .slice ao l.length cap := by obtain ⟨ao, cap, e, _⟩ := h; exact ⟨ao, cap, e⟩
  clear h
  go_enter Try.func6, Try.ntmps6
  go_wp2
  go_loopw [3] (fun iv wr => ∃ i : Nat, iv = .int .i64 i ∧ i ≤ l.length ∧ i ≤ 40 ∧ Hid ((l.take i).any badA = false) ∧ Hid (Below w.heap.size w wr)) (fun iv _ => 40 - (intOf iv).toNat)
  case atStart => exact ⟨0, rfl, Nat.zero_le _, Nat.zero_le _, Lib.hid rfl, Lib.hid (Below.refl _ _)⟩
  case round =>
    obtain ⟨i, rfl, hi, hi40, hF, hB⟩ := hrel
    by_cases hlt : i < l.length ∧ i < 40
    · obtain ⟨h1, h2⟩ := hlt
      obtain ⟨p, hp⟩ : ∃ p, l[i]? = some p := ⟨_, List.getElem?_eq_getElem h1⟩
      obtain ⟨g, k, rfl, _, d1, hc, _⟩ := H.out.at hB.out hp
      have d := hc 7 _ rfl
      rw [Nat.add_assoc, show 2 + 7 = 9 from rfl] at d
      have HN := Lib.hid (show (l.take (i + 1)).any badA = badA p by
        rw [Ve.take_snoc' l i p hp, List.any_append, hF.out]; simp)
      have HT := Lib.hid (fun (hq : badA p = true) => show longB l = true by
        unfold longB
        rw [List.any_eq_true]
        refine ⟨p, ?_, hq⟩
        rw [List.mem_iff_getElem?]
        exact ⟨i, by rw [List.getElem?_take, if_pos h2, hp]⟩)
      have MD := Lib.hid (show Calls Try.prog 9 #[p.v] wr fun e w' => e = .returned (.agg (va (madeF p.vl))) ∧ Below wr.heap.size wr w' from Ve.Made_any wr p.v p.vl (H.out.known hB.out hp))
      have BAD := Lib.hid (show badA p = (decide (300 < p.o.nm.size) || !rightB (madeF p.vl)) from rfl)
      obtain ⟨bb, hbb⟩ : ∃ z, rightB (madeF p.vl) = z := ⟨_, rfl⟩
      rw [hbb] at BAD
      have RG := Lib.hid (fun W => (show Calls Try.prog 22 #[.agg (va (madeF p.vl))] W fun e w' => e = .returned (.bool bb) ∧ Below W.heap.size W w' from Ve.rright_any W (madeF p.vl) (made_len _) bb (by rw [← hbb]; exact rightB_iff)))
      obtain ⟨VM, hVM⟩ : ∃ z, va (madeF p.vl) = z := ⟨_, rfl⟩
      rw [hVM] at MD RG
      have hpv : p.v = .slice p.va p.vn p.vc := rfl
      rw [hpv] at d1 MD
      obtain ⟨pa, hpa⟩ : ∃ z, p.va = z := ⟨_, rfl⟩
      obtain ⟨pn, hpn⟩ : ∃ z, p.vn = z := ⟨_, rfl⟩
      obtain ⟨pc, hpc⟩ : ∃ z, p.vc = z := ⟨_, rfl⟩
      rw [hpa, hpn, hpc] at d1 MD
      have hi0 : (0 : Int) ≤ (i : Int) := by omega
      have hi1 : (i : Int) < (l.length : Int) := by omega
      clear hc hp hF hbb hVM hpv hpa hpn hpc
      by_cases hq : 300 < p.o.nm.size
      · have E := Lib.hid (HT.out (by rw [BAD.out, decide_eq_true hq]; rfl))
        have hq2 : (300 : Int) < (p.o.nm.size : Int) := by omega
        go_wp2
        go_returns
        exact ⟨by rw [E.out]; rfl, hB.out⟩
      · have hq2 : ¬ ((300 : Int) < (p.o.nm.size : Int)) := by omega
        go_wp2_with fail
        refine MD.out.mono ?_
        rintro e w4 ⟨rfl, hb4⟩
        have X4 := Lib.hid (hB.out.trans (hb4.mono hB.out.size))
        clear hb4 d d1
        go_wp2_with fail
        refine (RG.out _).mono ?_
        rintro e w5 ⟨rfl, hb5⟩
        have X5 := Lib.hid (X4.out.trans (hb5.mono X4.out.size))
        clear hb5
        cases bb with
        | true =>
          have E := Lib.hid (show (l.take (i + 1)).any badA = false by rw [HN.out, BAD.out, decide_eq_false hq]; rfl)
          go_wp2
          go_roundw
          case rel => exact ⟨i + 1, by go_num, by omega, by omega, E, X5⟩
          case measure => simp [intOf]; omega
        | false =>
          have E := Lib.hid (HT.out (by rw [BAD.out]; simp))
          go_wp2
          go_returns
          exact ⟨by rw [E.out]; rfl, X5.out⟩
    · have E := Lib.hid (show longB l = false by
        have e : l.take 40 = l.take i := by
          by_cases h : i < l.length
          · rw [show i = 40 by omega]
          · rw [List.take_of_length_le (by omega), List.take_of_length_le (by omega)]
        unfold longB; rw [e]; exact hF.out)
      have hd : (¬ i < l.length) ∨ (i < l.length ∧ ¬ i < 40) := by
        by_cases h : i < l.length
        · exact .inr ⟨h, fun h2 => hlt ⟨h, h2⟩⟩
        · exact .inl h
      clear hlt hF
      rcases hd with hd | ⟨hd, hd2⟩
      all_goals
        go_wp2
        go_returns
        exact ⟨by rw [E.out]; rfl, hB.out⟩
end Go.Proofs.Ytgnnpfainoppeaa
