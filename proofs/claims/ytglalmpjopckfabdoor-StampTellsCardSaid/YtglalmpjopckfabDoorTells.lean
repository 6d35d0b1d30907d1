/- StampTells, walked: whether stamps may be, which is ahead, their texts; the stamp of any text. -/
import Derived.Test.YtglalmpjopckfabDoorRParseW
import Derived.Test.YtglalmpjopckfabDoorCmpW
import Derived.Test.YtglalmpjopckfabDoorAwake
set_option linter.unusedVariables false
namespace Go.Proofs.YtglalmpjopckfabDoor
open Go.RowKit

def TI (w W : World) (a1 a2 b1 b2 : Int) : Prop :=
  Below w.heap.size w W ∧ W.heap[w.heap.size]? = some (.cells #[.int .i64 a1, .int .i64 a2] 23 (0, 0)) ∧ W.heap[w.heap.size + 1]? = some (.cells #[.int .i64 b1, .int .i64 b2] 23 (0, 0))
theorem TI.step {w W W' : World} {a1 a2 b1 b2 : Int} (h : TI w W a1 a2 b1 b2) (hb : Below W.heap.size W W') : TI w W' a1 a2 b1 b2 :=
  ⟨h.1.trans (hb.mono h.1.size), (hb.block _ (lt_of_block h.2.1)).trans h.2.1, (hb.block _ (lt_of_block h.2.2)).trans h.2.2⟩
theorem TI.start (w : World) (a1 a2 b1 b2 : Int) : TI w ((w.alloc (.cells #[.int .i64 a1, .int .i64 a2] 23)).alloc (.cells #[.int .i64 b1, .int .i64 b2] 23)) a1 a2 b1 b2 := by
  have L := (Below.refl (w.alloc (.cells #[.int .i64 a1, .int .i64 a2] 23)).heap.size (w.alloc (.cells #[.int .i64 a1, .int .i64 a2] 23))).alloc (Nat.le_refl _) (.cells #[.int .i64 b1, .int .i64 b2] 23)
  refine ⟨((Below.refl w.heap.size w).alloc (Nat.le_refl _) _).alloc (by simp) _, (L.block w.heap.size (by simp)).trans (heap_alloc_new w _), ?_⟩
  have := heap_alloc_new (w.alloc (.cells #[.int .i64 a1, .int .i64 a2] 23)) (.cells #[.int .i64 b1, .int .i64 b2] 23)
  rw [World.size_alloc] at this
  exact this

theorem parse_code (s : ByteArray) : (parseP s).2 = 0 ∨ (parseP s).2 = 4 := by
  unfold parseP
  split
  · split
    · exact .inl rfl
    · exact .inr rfl
  · exact .inr rfl

theorem beq_b (x : Bool) : (x != x) = false := by cases x <;> rfl

set_option maxRecDepth 100000 in
set_option maxHeartbeats 800000 in
theorem tells_long (w : World) (a1 a2 b1 b2 : Int) (s : ByteArray) (hs : 100 < s.size) (hm : s.size ≤ 9223372036854775807) :
    Calls Tryd.prog 3 #[.agg #[.int .i64 a1, .int .i64 a2], .agg #[.int .i64 b1, .int .i64 b2], .string s] w fun e w' => e = .returned (.bool true) ∧ Below w.heap.size w w' := by
  have T0 := Lib.hid (TI.start w a1 a2 b1 b2)
  go_enter Tryd.func3, Tryd.ntmps3
  go_wp2_with fail
  refine (awake_any _).mono ?_
  rintro e w1 ⟨rfl, hb1⟩
  have T1 := Lib.hid (T0.out.step hb1)
  clear hb1
  go_wp2
  go_returns
  exact ⟨rfl, T1.out.1⟩

set_option maxRecDepth 100000 in
set_option maxHeartbeats 8000000 in
theorem tells_short (w : World) (a1 a2 b1 b2 : Int) (s : ByteArray) (hs : s.size ≤ 100) (ht : Tab w) (ha1 : a1 ≤ 9223372036854775807) (ha2 : a2 ≤ 9223372036854775807) :
    Calls Tryd.prog 3 #[.agg #[.int .i64 a1, .int .i64 a2], .agg #[.int .i64 b1, .int .i64 b2], .string s] w fun e w' => e = .returned (.bool true) ∧ Below w.heap.size w w' := by
  have T0 := Lib.hid (TI.start w a1 a2 b1 b2)
  have P := Lib.hid (fun W => parse_any W s (by omega))
  have Q := Lib.hid (fun W => rparse_any W s (by omega))
  have hc := parse_code s
  unfold parseV at P
  unfold rparseV at Q
  generalize parseP s = pr at *
  obtain ⟨⟨p1, p2⟩, c⟩ := pr
  simp only at P Q hc
  have C11 := Lib.hid (fun W => reserved_any W a1 a2)
  have C12 := Lib.hid (fun W => rres_any W a1 a2)
  have C13 := Lib.hid (fun W => right_any W a1 a2)
  have C14 := Lib.hid (fun W => rright_any W a1 a2)
  have C15 := Lib.hid (fun W => compare_any W a1 a2 b1 b2)
  have C16 := Lib.hid (fun W => rcompare_any W a1 a2 b1 b2)
  have C17 := Lib.hid (fun W (h : Below w.heap.size w W) => text_any W a1 a2 ha1 ha2 (tab_later ht h))
  have C18 := Lib.hid (fun W => rtext_any W a1 a2 ha1 ha2)
  have hts := textS_size a1 a2 ha1 ha2
  generalize resB a1 a2 = xr at *
  generalize rightB a1 a2 = xg at *
  generalize cmpS a1 a2 b1 b2 = z at *
  generalize textS a1 a2 = tx at *
  have v1 := beq_b xr
  have v2 := beq_b xg
  have v3 := eqb_ z z rfl
  have v4 := tln_eq (a := tx) rfl
  have v5 := tl_eq (a := tx) rfl
  clear ht ha1 ha2
  rcases hc with rfl | rfl
  all_goals
    go_enter Tryd.func3, Tryd.ntmps3
    go_wp2_with fail
    refine (P.out _).mono ?_
    rintro e w1 ⟨rfl, hb1⟩
    have T1 := Lib.hid (T0.out.step hb1)
    clear hb1
    go_wp2_with fail
    refine (Q.out _).mono ?_
    rintro e w2 ⟨rfl, hb2⟩
    have X2 := Lib.hid (And.intro hb2 ((hb2.block w1.heap.size (by simp)).trans (heap_alloc_new w1 (.cells #[.int .i64 p1, .int .i64 p2] 23))))
    have T2 := Lib.hid ((T1.out.step ((Below.refl w1.heap.size w1).alloc (Nat.le_refl _) _)).step hb2)
    clear hb2
    have B3 := Lib.hid ((Below.refl w2.heap.size w2).alloc (Nat.le_refl _) (.cells #[.int .i64 p1, .int .i64 p2] 23))
    have T3 := Lib.hid (T2.out.step B3.out)
    have X3 := Lib.hid ((B3.out.block w1.heap.size (lt_of_block X2.out.2)).trans X2.out.2)
    have Y3 := Lib.hid (heap_alloc_new w2 (.cells #[.int .i64 p1, .int .i64 p2] 23))
    have k0 := later_cell T3.out.2.1 (j := 0) rfl
    have k1 := later_cell T3.out.2.1 (j := 1) rfl
    have k2 := later_cell T3.out.2.2 (j := 0) rfl
    have k3 := later_cell T3.out.2.2 (j := 1) rfl
    have D11 := Lib.hid (fun x : Later (w2.alloc (.cells #[.int .i64 p1, .int .i64 p2] 23)) => C11.out x.w)
    have D12 := Lib.hid (fun x : Later (w2.alloc (.cells #[.int .i64 p1, .int .i64 p2] 23)) => C12.out x.w)
    have D13 := Lib.hid (fun x : Later (w2.alloc (.cells #[.int .i64 p1, .int .i64 p2] 23)) => C13.out x.w)
    have D14 := Lib.hid (fun x : Later (w2.alloc (.cells #[.int .i64 p1, .int .i64 p2] 23)) => C14.out x.w)
    have D15 := Lib.hid (fun x : Later (w2.alloc (.cells #[.int .i64 p1, .int .i64 p2] 23)) => C15.out x.w)
    have D16 := Lib.hid (fun x : Later (w2.alloc (.cells #[.int .i64 p1, .int .i64 p2] 23)) => C16.out x.w)
    have D17 := Lib.hid (fun x : Later (w2.alloc (.cells #[.int .i64 p1, .int .i64 p2] 23)) => C17.out x.w (T3.out.step x.below).1)
    have D18 := Lib.hid (fun x : Later (w2.alloc (.cells #[.int .i64 p1, .int .i64 p2] 23)) => C18.out x.w)
    go_wp2
    refine wp_region_later (by kernel_rfl) (by kernel_rfl) ?_
    repeat (go_big_quiet_step (first
      | (go_at_call 11; with_reducible exact later_call (D11.out _))
      | (go_at_call 12; with_reducible exact later_call (D12.out _))
      | (go_at_call 13; with_reducible exact later_call (D13.out _))
      | (go_at_call 14; with_reducible exact later_call (D14.out _))
      | (go_at_call 15; with_reducible exact later_call (D15.out _))
      | (go_at_call 16; with_reducible exact later_call (D16.out _))
      | (go_at_call 17; with_reducible exact later_call (D17.out _))
      | (go_at_call 18; with_reducible exact later_call (D18.out _))))
    refine wpQuiet_nil ?_
    intro _ hw'
    obtain ⟨xl, hw''⟩ := hw'
    subst hw''
    have T4 := Lib.hid (T3.out.step xl.below)
    have X4 := Lib.hid ((xl.below.block w1.heap.size (lt_of_block X3.out)).trans X3.out)
    have Y4 := Lib.hid ((xl.below.block w2.heap.size (lt_of_block Y3.out)).trans Y3.out)
    generalize xl.w = w4 at *
    clear k0 k1 k2 k3 D11 D12 D13 D14 D15 D16 D17 D18 T0 T1 T2 T3 X2 X3 Y3 B3
    go_wp2_with fail
    refine (root_any _).mono ?_
    rintro e w5 ⟨rfl, hb5⟩
    have Z5 := Lib.hid (And.intro (T4.out.step hb5) (And.intro ((hb5.block w1.heap.size (lt_of_block X4.out)).trans X4.out) ((hb5.block w2.heap.size (lt_of_block Y4.out)).trans Y4.out)))
    clear hb5 T4 X4 Y4
    go_wp2_with fail
    refine (trash_any _).mono ?_
    rintro e w6 ⟨rfl, hb6⟩
    have Z6 := Lib.hid (And.intro (Z5.out.1.step hb6) (And.intro ((hb6.block w1.heap.size (lt_of_block Z5.out.2.1)).trans Z5.out.2.1) ((hb6.block w2.heap.size (lt_of_block Z5.out.2.2)).trans Z5.out.2.2)))
    clear hb6 Z5
    go_wp2_with fail
    refine (lost_any _).mono ?_
    rintro e w7 ⟨rfl, hb7⟩
    have Z7 := Lib.hid (And.intro (Z6.out.1.step hb7) (And.intro ((hb7.block w1.heap.size (lt_of_block Z6.out.2.1)).trans Z6.out.2.1) ((hb7.block w2.heap.size (lt_of_block Z6.out.2.2)).trans Z6.out.2.2)))
    clear hb7 Z6
    obtain ⟨q0, q1, _, _⟩ := two_cells Z7.out.2.1
    obtain ⟨r0, r1, _, _⟩ := two_cells Z7.out.2.2
    go_wp2_with fail
    refine (awake_any _).mono ?_
    rintro e w8 ⟨rfl, hb8⟩
    have Z8 := Lib.hid (Z7.out.1.step hb8)
    clear hb8
    go_wp2
    go_returns
    exact ⟨rfl, Z8.out.1⟩

theorem tells_all (w : World) (a1 a2 b1 b2 : Int) (s : ByteArray) (hm : s.size ≤ 9223372036854775807) (ht : Tab w) (ha1 : a1 ≤ 9223372036854775807) (ha2 : a2 ≤ 9223372036854775807) :
    Calls Tryd.prog 3 #[.agg #[.int .i64 a1, .int .i64 a2], .agg #[.int .i64 b1, .int .i64 b2], .string s] w fun e w' => e = .returned (.bool true) ∧ Below w.heap.size w w' := by
  by_cases h : 100 < s.size
  · exact tells_long w a1 a2 b1 b2 s h hm
  · exact tells_short w a1 a2 b1 b2 s (by omega) ht ha1 ha2
end Go.Proofs.YtglalmpjopckfabDoor
