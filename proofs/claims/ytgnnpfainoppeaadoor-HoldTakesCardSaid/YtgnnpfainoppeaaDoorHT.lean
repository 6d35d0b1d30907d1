/- hold.Trim's question, slices.IndexFunc with it. -/
import Derived.Test.YtgnnpfainoppeaaDoorHR
set_option linter.unusedVariables false
set_option linter.unusedSimpArgs false
set_option maxRecDepth 100000
namespace Go.Proofs.YtgnnpfainoppeaaDoor
open Go.RowKit
open Ve (vw va)

theorem stays_step (v ft fr : Int) : ∀ (l : List O) (i : Nat) (o : O), i ≤ stays v ft fr l → l[i]? = some o → (goB v ft fr o = true → i + 1 ≤ stays v ft fr l) ∧ (goB v ft fr o = false → stays v ft fr l = i)
  | [], i, o, _, h => by cases h
  | a :: l, 0, o, _, h => by
    injection h with h
    subst h
    constructor
    · intro hg; show 0 + 1 ≤ (if goB v ft fr a then _ else _); rw [hg]; simp
    · intro hg; show (if goB v ft fr a then _ else _) = 0; rw [hg]; rfl
  | a :: l, i + 1, o, hi, h => by
    have hs : stays v ft fr (a :: l) = if goB v ft fr a then stays v ft fr l + 1 else 0 := rfl
    cases hg : goB v ft fr a with
    | false => rw [hs, hg] at hi; simp at hi
    | true =>
      rw [hs, hg, if_pos rfl] at hi ⊢
      obtain ⟨h1, h2⟩ := stays_step v ft fr l i o (by omega) (by simpa using h)
      exact ⟨fun q => by have := h1 q; omega, fun q => by rw [h2 q]⟩
/-- What the question reads. -/
structure CL (w : World) (kv kr kf : Nat) (vv : List Int) (i : Nat) (ft fr : Int) : Prop where
  v : w.heap[kv]? = some (.cells (va vv) 27 (0, 0))
  r : w.heap[kr]? = some (.cells #[.int .i64 (i : Int)] 3 (0, 0))
  f : w.heap[kf]? = some (.cells #[.int .i64 ft, .int .i64 fr] 38 (0, 0))
theorem CL.step {w w' : World} {kv kr kf : Nat} {vv : List Int} {i : Nat} {ft fr : Int} (h : CL w kv kr kf vv i ft fr) (hb : Below w.heap.size w w') : CL w' kv kr kf vv i ft fr :=
  ⟨(hb.block _ (lt_of_block h.v)).trans h.v, (hb.block _ (lt_of_block h.r)).trans h.r, (hb.block _ (lt_of_block h.f)).trans h.f⟩
theorem CL.cells {w : World} {kv kr kf : Nat} {vv : List Int} {i : Nat} {ft fr : Int} (h : CL w kv kr kf vv i ft fr) {x : Int} (hx : vv[i]? = some x) :
    w.cell? ⟨kv, i, none⟩ = some (.int .i64 x) ∧ w.cell? ⟨kr, 0, none⟩ = some (.int .i64 (i : Int)) ∧ w.cell? ⟨kf, 0, none⟩ = some (.int .i64 ft) ∧ w.cell? ⟨kf, 1, none⟩ = some (.int .i64 fr) := by
  refine ⟨Ve.cell_va h.v hx, ?_, ?_, ?_⟩
  · rw [cell_of_row _ _ _ _ _ _ h.r]; rfl
  · rw [cell_of_row _ _ _ _ _ _ h.f]; rfl
  · rw [cell_of_row _ _ _ _ _ _ h.f]; rfl
theorem goB_cmp (v ft fr : Int) (o : O) : (!goB v ft fr o) = (!decide (o.q ≤ v) || decide (0 < St.cmpS o.t o.r ft fr)) := by
  unfold goB
  rw [less_cmp]
  have e : decide (0 < St.cmpS o.t o.r ft fr) = !decide (St.cmpS o.t o.r ft fr ≤ 0) := by
    by_cases h : St.cmpS o.t o.r ft fr ≤ 0
    · rw [decide_eq_true h, decide_eq_false (by omega)]; rfl
    · rw [decide_eq_false h, decide_eq_true (by omega)]; rfl
  rw [e]
  cases decide (o.q ≤ v) <;> cases decide (St.cmpS o.t o.r ft fr ≤ 0) <;> rfl
set_option maxHeartbeats 3200000 in
theorem quest_any (w : World) (kv kr kf : Nat) (vv : List Int) (i : Nat) (hi : i < 64) (ft fr x : Int) (h : CL w kv kr kf vv i ft fr) (hx : vv[i]? = some x) (o : O) :
    Calls Tryd.prog 38 #[oV o, pv kv, pv kr, pv kf] w fun e w' => e = .returned (.bool (!goB x ft fr o)) ∧ Below w.heap.size w w' := by
  have X := vstep w (.cells (oCells o) 40)
  have XX := Lib.hid X
  have C0 := h.step X
  obtain ⟨g0, g1, g2, g3⟩ := C0.cells hx
  have RW := heap_alloc_new w (.cells (oCells o) 40)
  have k0 := later_cell RW (j := 0) (v := .int .i64 o.t) rfl
  have k1 := later_cell RW (j := 1) (v := .int .i64 o.r) rfl
  have k2 := later_cell RW (j := 2) (v := .int .i64 o.q) rfl
  have k3 := later_cell C0.v (Ve.va_get vv i x hx)
  have k4 := later_cell C0.r (j := 0) (v := .int .i64 (i : Int)) rfl
  have k5 := later_cell C0.f (j := 0) (v := .int .i64 ft) rfl
  have k6 := later_cell C0.f (j := 1) (v := .int .i64 fr) rfl
  have D := Lib.hid (fun x : Later (w.alloc (.cells (oCells o) 40)) => St.compare_any x.w o.t o.r ft fr)
  have GE := Lib.hid (goB_cmp x ft fr o)
  have hi0 : (0 : Int) ≤ (i : Int) := by omega
  have hi1 : (i : Int) < 64 := by omega
  clear C0 RW h hx X
  rw [GE.out]
  unfold oV
  have OC := Lib.hid (show oCells o = #[.int .i64 o.t, .int .i64 o.r, .int .i64 o.q, .int .i64 o.nt, .int .i64 o.nr, .int .i64 o.pt, .int .i64 o.pr, .string o.nm, .bool o.d] from rfl)
  by_cases hq : o.q ≤ x
  · have hq2 : ¬ (x < o.q) := by omega
    have e1 := decide_eq_true hq
    rw [e1]
    go_enter Tryd.func38, Tryd.ntmps38
    go_upto_region 1 with (fail)
    refine wp_region_later (by kernel_rfl) (by kernel_rfl) ?_
    repeat (go_big_quiet_step (first
      | (go_at_call 39; with_reducible exact later_call (D.out _))))
    refine wpQuiet_nil ?_
    rintro _ ⟨xl, rfl⟩
    have T1 := Lib.hid (XX.out.trans (xl.below.mono XX.out.size))
    generalize xl.w = w4 at *
    go_wp2
    go_returns
    exact ⟨by first | rfl | simp, T1.out⟩
  · have hq2 : x < o.q := by omega
    have e1 := decide_eq_false hq
    rw [e1]
    go_enter Tryd.func38, Tryd.ntmps38
    go_upto_region 1 with (fail)
    refine wp_region_later (by kernel_rfl) (by kernel_rfl) ?_
    repeat (go_big_quiet_step (first
      | (go_at_call 39; with_reducible exact later_call (D.out _))))
    refine wpQuiet_nil ?_
    rintro _ ⟨xl, rfl⟩
    have T1 := Lib.hid (XX.out.trans (xl.below.mono XX.out.size))
    generalize xl.w = w4 at *
    go_wp2
    go_returns
    exact ⟨by first | rfl | simp, T1.out⟩
theorem eg38 : ∀ args w, (callFunc 38 args).run Tryd.prog w = .ok (.enter 38 args) w := enters_of Tryd.func38 (by kernel_rfl) rfl
def staysI (n : Nat) (l : List O) : Int := if n < l.length then (n : Int) else -1
set_option maxHeartbeats 3200000 in
theorem index_any (w : World) (kv kr kf : Nat) (vv : List Int) (i : Nat) (hi : i < 64) (ft fr x : Int) (h : CL w kv kr kf vv i ft fr) (hx : vv[i]? = some x) (v : Value) (l : List O) (hv : OLies w v l) :
    Calls Tryd.prog 37 #[v, .func (.func 38) #[] #[pv kv, pv kr, pv kf]] w fun e w' => e = .returned (.int .i64 (staysI (stays x ft fr l) l)) ∧ Below w.heap.size w w' := by
  have H := Lib.hid h
  have V := Lib.hid hv
  have Q := Lib.hid (fun W (h : CL W kv kr kf vv i ft fr) o => quest_any W kv kr kf vv i hi ft fr x h hx o)
  have hl := hv.len
  have EG := Lib.hid eg38
  obtain ⟨ao, cap, rfl⟩ := hv.shape
  clear h hv hx hi
  go_enter Tryd.func37, Tryd.ntmps37
  go_wp2
  go_loopw [8] (fun jv wr => ∃ j : Nat, jv = .int .i64 j ∧ j ≤ l.length ∧ Hid (j ≤ stays x ft fr l ∧ Below w.heap.size w wr)) (fun jv _ => l.length - (intOf jv).toNat)
  case atStart => exact ⟨0, rfl, Nat.zero_le _, Lib.hid ⟨Nat.zero_le _, Below.refl _ _⟩⟩
  case round =>
    obtain ⟨j, rfl, hj, hI⟩ := hrel
    by_cases hlt : j < l.length
    · obtain ⟨k, off, o, rfl, ho, hk, d0, d1, d2, d3, d4, d5, d6, d7, d8⟩ := (V.out.step hI.out.2).at' hlt
      obtain ⟨s1, s2⟩ := stays_step x ft fr l j o hI.out.1 ho
      have S1 := Lib.hid s1
      have S2 := Lib.hid s2
      have Q1 := Lib.hid (Q.out wr (H.out.step hI.out.2) o)
      have hj0 : (0 : Int) ≤ (j : Int) := by omega
      have hj1 : (j : Int) < (l.length : Int) := by omega
      have OV := Lib.hid (show oV o = .agg #[.int .i64 o.t, .int .i64 o.r, .int .i64 o.q, .int .i64 o.nt, .int .i64 o.nr, .int .i64 o.pt, .int .i64 o.pr, .string o.nm, .bool o.d] from rfl)
      rw [OV.out] at Q1
      clear s1 s2 ho hk
      go_wp2_with fail
      refine Q1.out.mono ?_
      rintro e w1 ⟨rfl, hb⟩
      have B1 := Lib.hid (hI.out.2.trans (hb.mono hI.out.2.size))
      clear hb Q1 d0 d1 d2 d3 d4 d5 d6 d7 d8
      cases hg : goB x ft fr o with
      | true =>
        have SS := Lib.hid (S1.out hg)
        clear hg
        go_wp2
        go_roundw
        case rel => exact ⟨j + 1, by go_num, by omega, Lib.hid ⟨SS.out, B1.out⟩⟩
        case measure => simp [intOf]; omega
      | false =>
        have SS := Lib.hid (show staysI (stays x ft fr l) l = (j : Int) by rw [S2.out hg]; unfold staysI; rw [if_pos hlt])
        clear hg
        go_wp2
        go_returns
        exact ⟨by rw [SS.out]; rfl, B1.out⟩
    · have SS := Lib.hid (show staysI (stays x ft fr l) l = -1 by
        unfold staysI; rw [if_neg (by have := hI.out.1; omega)])
      have B1 := Lib.hid hI.out.2
      clear hI
      go_wp2
      go_returns
      exact ⟨by rw [SS.out]; rfl, B1.out⟩
end Go.Proofs.YtgnnpfainoppeaaDoor
