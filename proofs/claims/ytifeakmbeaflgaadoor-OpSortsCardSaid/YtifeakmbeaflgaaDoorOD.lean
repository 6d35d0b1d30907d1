/- An op's text. Made by genod7.py. -/
import Derived.Test.YtifeakmbeaflgaaDoorOC
set_option linter.unusedVariables false
namespace Go.Proofs.YtifeakmbeaflgaaDoor
open Go.RowKit

theorem textS_size (a b : Int) (ha : a ≤ 9223372036854775807) (hb : b ≤ 9223372036854775807) : (St.textS a b).size ≤ 43 := by
  have h1 := St.decS_size a ha
  have h2 := St.decS_size b hb
  have hp : (ByteArray.mk #[46]).size = 1 := rfl
  unfold St.textS
  rw [ByteArray.size_append, ByteArray.size_append, hp]
  omega
theorem quT_size (s : ByteArray) : (quT s).size ≤ 3 * s.size := by
  rw [← nl_length, nl_quT, ← nl_length]
  exact qn_len _
theorem doesS_size (k : Int) : (doesS k).size ≤ 6 := by
  unfold doesS
  split
  · decide
  · split <;> decide
abbrev sSharp : ByteArray := ⟨#[35]⟩
abbrev sBlank : ByteArray := ⟨#[32]⟩
abbrev sIn : ByteArray := ⟨#[32, 105, 110, 32]⟩
abbrev sAs : ByteArray := ⟨#[32, 97, 115, 32]⟩
/-- An op's text out of its parts. -/
def opT (a q v n p m : ByteArray) (d : Bool) : ByteArray := ((((((a ++ sSharp) ++ q) ++ sBlank) ++ v) ++ sBlank) ++ n) ++ (((sIn ++ p) ++ sAs) ++ m) ++ (if d then ⟨#[32, 100, 105, 114]⟩ else ⟨#[32, 102, 105, 108, 101]⟩)
theorem opT_ref (a q v n p m : ByteArray) (d : Bool) : (((((((((((a ++ sSharp) ++ q) ++ sBlank) ++ v) ++ sBlank) ++ n) ++ sIn) ++ p) ++ sAs) ++ m) ++ sBlank) ++ (if d then ⟨#[100, 105, 114]⟩ else ⟨#[102, 105, 108, 101]⟩) = opT a q v n p m d := by
  refine ba_ext ?_
  unfold opT
  cases d <;> simp only [ByteArray.data_append, Array.toList_append, List.append_assoc] <;> rfl
def textO (t r q nt nr pt pr : Int) (nm : ByteArray) (d : Bool) : ByteArray := opT (St.textS t r) (decS q) (doesS (kindI t r nt nr pt pr)) (St.textS nt nr) (St.textS pt pr) (quT nm) d
theorem ret_t {a b : ByteArray} (h : a = b) : (Ending.returned (.string a)) = .returned (.string b) := by rw [h]
set_option maxRecDepth 100000 in
set_option maxHeartbeats 3200000 in
theorem textO_any (w : World) (t r q nt nr pt pr : Int) (nm : ByteArray) (d : Bool) (ht : t ≤ 9223372036854775807) (hr : r ≤ 9223372036854775807) (hq : q ≤ 9223372036854775807) (hnt : nt ≤ 9223372036854775807) (hnr : nr ≤ 9223372036854775807) (hpt : pt ≤ 9223372036854775807) (hpr : pr ≤ 9223372036854775807) (hz : nm.size ≤ 300) (hT : Tab w) :
    Calls Tryd.prog 17 #[.agg #[.int .i64 t, .int .i64 r, .int .i64 q, .int .i64 nt, .int .i64 nr, .int .i64 pt, .int .i64 pr, .string nm, .bool d]] w fun e w' => e = .returned (.string (textO t r q nt nr pt pr nm d)) ∧ Below w.heap.size w w' := by
  have T0 := Lib.hid (BX.start w t r q nt nr pt pr nm d)
  have E := Lib.hid (show textO t r q nt nr pt pr nm d = opT (St.textS t r) (decS q) (doesS (kindI t r nt nr pt pr)) (St.textS nt nr) (St.textS pt pr) (quT nm) d from rfl)
  have A1 := Lib.hid (fun W (hb : Below w.heap.size w W) => St.text_any W t r ht hr (tab_later hT hb))
  have A2 := Lib.hid (fun W (hb : Below w.heap.size w W) => St.text_any W nt nr hnt hnr (tab_later hT hb))
  have A3 := Lib.hid (fun W (hb : Below w.heap.size w W) => St.text_any W pt pr hpt hpr (tab_later hT hb))
  have A4 := Lib.hid (fun W (hb : Below w.heap.size w W) => digits_any W q hq (tab_later hT hb))
  have A5 := Lib.hid (fun W => does_any W t r q nt nr pt pr nm d)
  have A6 := Lib.hid (fun W => quote_any W nm (by omega))
  have z1 := textS_size t r ht hr
  have z2 := textS_size nt nr hnt hnr
  have z3 := textS_size pt pr hpt hpr
  have z4 := decS_size q hq
  have z5 := doesS_size (kindI t r nt nr pt pr)
  have z6 : (quT nm).size ≤ 900 := by have := quT_size nm; omega
  generalize textO t r q nt nr pt pr nm d = res at *
  generalize St.textS t r = s1 at *
  generalize St.textS nt nr = s2 at *
  generalize St.textS pt pr = s3 at *
  generalize decS q = s4 at *
  generalize doesS (kindI t r nt nr pt pr) = s5 at *
  generalize quT nm = s6 at *
  clear ht hr hq hnt hnr hpt hpr hz hT
  have D1 := Lib.hid (fun x : Later (w.alloc (.cells #[.int .i64 t, .int .i64 r, .int .i64 q, .int .i64 nt, .int .i64 nr, .int .i64 pt, .int .i64 pr, .string nm, .bool d] 25)) => A1.out x.w (T0.out.step x.below).1)
  have D2 := Lib.hid (fun x : Later (w.alloc (.cells #[.int .i64 t, .int .i64 r, .int .i64 q, .int .i64 nt, .int .i64 nr, .int .i64 pt, .int .i64 pr, .string nm, .bool d] 25)) => A2.out x.w (T0.out.step x.below).1)
  have D4 := Lib.hid (fun x : Later (w.alloc (.cells #[.int .i64 t, .int .i64 r, .int .i64 q, .int .i64 nt, .int .i64 nr, .int .i64 pt, .int .i64 pr, .string nm, .bool d] 25)) => A4.out x.w (T0.out.step x.below).1)
  have D5 := Lib.hid (fun x : Later (w.alloc (.cells #[.int .i64 t, .int .i64 r, .int .i64 q, .int .i64 nt, .int .i64 nr, .int .i64 pt, .int .i64 pr, .string nm, .bool d] 25)) => A5.out x.w)
  have k0 := later_cell T0.out.2 (j := 0) rfl
  have k1 := later_cell T0.out.2 (j := 1) rfl
  have k2 := later_cell T0.out.2 (j := 2) rfl
  have k3 := later_cell T0.out.2 (j := 3) rfl
  have k4 := later_cell T0.out.2 (j := 4) rfl
  have k5 := later_cell T0.out.2 (j := 5) rfl
  have k6 := later_cell T0.out.2 (j := 6) rfl
  have k7 := later_cell T0.out.2 (j := 7) rfl
  have k8 := later_cell T0.out.2 (j := 8) rfl
  go_enter Tryd.func17, Tryd.ntmps17
  go_upto_region 1 with (fail)
  refine wp_region_later (by kernel_rfl) (by kernel_rfl) ?_
  repeat (go_big_quiet_step (first
    | (go_at_call 41; with_reducible exact later_call (D1.out _))
    | (go_at_call 41; with_reducible exact later_call (D2.out _))
    | (go_at_call 42; with_reducible exact later_call (D4.out _))
    | (go_at_call 43; with_reducible exact later_call (D5.out _))))
  refine wpQuiet_nil ?_
  rintro _ ⟨xl, rfl⟩
  have T1 := Lib.hid (T0.out.step xl.below)
  generalize xl.w = w1 at *
  clear k0 k1 k2 k3 k4 k5 k6 k7 k8 D1 D2 D4 D5 A1 A2 A4 A5
  have D3 := Lib.hid (fun x : Later w1 => A3.out x.w (T1.out.step x.below).1)
  have D6 := Lib.hid (fun x : Later w1 => A6.out x.w)
  have k0 := later_cell T1.out.2 (j := 0) rfl
  have k1 := later_cell T1.out.2 (j := 1) rfl
  have k2 := later_cell T1.out.2 (j := 2) rfl
  have k3 := later_cell T1.out.2 (j := 3) rfl
  have k4 := later_cell T1.out.2 (j := 4) rfl
  have k5 := later_cell T1.out.2 (j := 5) rfl
  have k6 := later_cell T1.out.2 (j := 6) rfl
  have k7 := later_cell T1.out.2 (j := 7) rfl
  have k8 := later_cell T1.out.2 (j := 8) rfl
  go_upto_region 2 with (fail)
  refine wp_region_later (by kernel_rfl) (by kernel_rfl) ?_
  repeat (go_big_quiet_step (first
    | (go_at_call 41; with_reducible exact later_call (D3.out _))
    | (go_at_call 44; with_reducible exact later_call (D6.out _))))
  refine wpQuiet_nil ?_
  rintro _ ⟨xl, rfl⟩
  have T2 := Lib.hid (T1.out.step xl.below)
  generalize xl.w = w2 at *
  clear k0 k1 k2 k3 k4 k5 k6 k7 k8 D3 D6 A3 A6
  obtain ⟨c0, c1, c2, c3, c4, c5, c6, c7, c8⟩ := T2.out.2.cells
  cases d
  all_goals
    go_wp2
    go_returns
    exact ⟨ret_t E.out.symm, T2.out.1⟩
set_option maxRecDepth 100000 in
set_option maxHeartbeats 3200000 in
theorem rtextO_any (w : World) (t r q nt nr pt pr : Int) (nm : ByteArray) (d : Bool) (ht : t ≤ 9223372036854775807) (hr : r ≤ 9223372036854775807) (hq : q ≤ 9223372036854775807) (hnt : nt ≤ 9223372036854775807) (hnr : nr ≤ 9223372036854775807) (hpt : pt ≤ 9223372036854775807) (hpr : pr ≤ 9223372036854775807) (hz : nm.size ≤ 300) :
    Calls Tryd.prog 18 #[.agg #[.int .i64 t, .int .i64 r, .int .i64 q, .int .i64 nt, .int .i64 nr, .int .i64 pt, .int .i64 pr, .string nm, .bool d]] w fun e w' => e = .returned (.string (textO t r q nt nr pt pr nm d)) ∧ Below w.heap.size w w' := by
  have T0 := Lib.hid (BX.start w t r q nt nr pt pr nm d)
  have E := Lib.hid (show textO t r q nt nr pt pr nm d = _ from (opT_ref (St.textS t r) (decS q) (doesS (kindI t r nt nr pt pr)) (St.textS nt nr) (St.textS pt pr) (quT nm) d).symm)
  have A0 := Lib.hid (fun W => rkind_any W t r q nt nr pt pr nm d)
  have A1 := Lib.hid (fun W => St.rtext_any W t r ht hr)
  have A2 := Lib.hid (fun W => St.rtext_any W nt nr hnt hnr)
  have A3 := Lib.hid (fun W => St.rtext_any W pt pr hpt hpr)
  have A4 := Lib.hid (fun W => rdig_any W q hq)
  have A6 := Lib.hid (fun W => rquote_any W nm (by omega))
  have z1 := textS_size t r ht hr
  have z2 := textS_size nt nr hnt hnr
  have z3 := textS_size pt pr hpt hpr
  have z4 := decS_size q hq
  have z6 : (quT nm).size ≤ 900 := by have := quT_size nm; omega
  have kc := kindI_cases t r nt nr pt pr
  generalize textO t r q nt nr pt pr nm d = res at *
  generalize St.textS t r = s1 at *
  generalize St.textS nt nr = s2 at *
  generalize St.textS pt pr = s3 at *
  generalize decS q = s4 at *
  generalize quT nm = s6 at *
  generalize kindI t r nt nr pt pr = k at *
  clear ht hr hq hnt hnr hpt hpr hz
  rcases kc with rfl | rfl | rfl
  all_goals
    cases d
    all_goals
      go_enter Tryd.func18, Tryd.ntmps18
      go_wp2_with fail
      refine (A0.out _).mono ?_
      rintro e w1 ⟨rfl, hb⟩
      have T1 := Lib.hid (T0.out.step hb)
      clear hb
      obtain ⟨c0, c1, c2, c3, c4, c5, c6, c7, c8⟩ := T1.out.2.cells
      go_wp2_with fail
      refine (A0.out _).mono ?_
      rintro e w2 ⟨rfl, hb⟩
      have T2 := Lib.hid (T1.out.step hb)
      clear hb
      clear c0 c1 c2 c3 c4 c5 c6 c7 c8
      obtain ⟨c0, c1, c2, c3, c4, c5, c6, c7, c8⟩ := T2.out.2.cells
      go_upto_region 9 with (fail)
      clear c0 c1 c2 c3 c4 c5 c6 c7 c8
      have D1 := Lib.hid (fun x : Later w2 => A1.out x.w)
      have D2 := Lib.hid (fun x : Later w2 => A2.out x.w)
      have D3 := Lib.hid (fun x : Later w2 => A3.out x.w)
      have D4 := Lib.hid (fun x : Later w2 => A4.out x.w)
      have D6 := Lib.hid (fun x : Later w2 => A6.out x.w)
      have k0 := later_cell T2.out.2 (j := 0) rfl
      have k1 := later_cell T2.out.2 (j := 1) rfl
      have k2 := later_cell T2.out.2 (j := 2) rfl
      have k3 := later_cell T2.out.2 (j := 3) rfl
      have k4 := later_cell T2.out.2 (j := 4) rfl
      have k5 := later_cell T2.out.2 (j := 5) rfl
      have k6 := later_cell T2.out.2 (j := 6) rfl
      have k7 := later_cell T2.out.2 (j := 7) rfl
      have k8 := later_cell T2.out.2 (j := 8) rfl
      refine wp_region_later (by kernel_rfl) (by kernel_rfl) ?_
      repeat (go_big_quiet_step (first
        | (go_at_call 45; with_reducible exact later_call (D1.out _))
        | (go_at_call 45; with_reducible exact later_call (D2.out _))
        | (go_at_call 45; with_reducible exact later_call (D3.out _))
        | (go_at_call 46; with_reducible exact later_call (D4.out _))
        | (go_at_call 47; with_reducible exact later_call (D6.out _))))
      refine wpQuiet_nil ?_
      rintro _ ⟨xl, rfl⟩
      have T3 := Lib.hid (T2.out.step xl.below)
      generalize xl.w = w3 at *
      clear k0 k1 k2 k3 k4 k5 k6 k7 k8 D1 D2 D3 D4 D6
      go_wp2
      go_returns
      exact ⟨ret_t E.out.symm, T3.out.1⟩
end Go.Proofs.YtifeakmbeaflgaaDoor
