/- The sum, by halves of bytes and bit by bit. -/
import Derived.Test.YtgbihpfpiaacfaaGreatDoorCSumA
set_option linter.unusedVariables false
namespace Go.Proofs.YtgbihpfpiaacfaaGreatDoor.Rc
open Go.RowKit

theorem tab_cell {w : World} {g h : Nat} (hg : w.heap[g]? = some (.cells (tabRow 16) 160 (0, 0))) (hh : h < 16) : w.cell? ⟨g, h, none⟩ = some (.int .u32 ((stn 4 h : Nat) : Int)) := by
  rw [cell_of_row _ _ _ _ _ _ hg, tabRow_get _ _ hh, if_pos hh]

/-- What half a byte's step comes to, in the walk's spelling. -/
theorem half_step (y : Nat) (hy : y < 4294967296) : ∃ q l s y' : Nat, (y : Int) / 16 = (q : Int) ∧ bits .and .u32 (y : Int) 15 = (l : Int) ∧ (l : Int) < 16 ∧ l < 16 ∧ s = stn 4 l ∧ bits .xor .u32 (q : Int) (s : Int) = (y' : Int) ∧ y' = stn 4 y ∧ y' < 4294967296 := by
  refine ⟨y / 16, y % 16, stn 4 (y % 16), stn 4 y, by omega, and15 y hy, by omega, by omega, rfl, ?_, rfl, stn_lt 4 y hy⟩
  rw [x32 _ _ (by omega) (stn_lt 4 _ (by omega)), nibble y, Nat.xor_comm]

set_option maxRecDepth 100000 in
set_option maxHeartbeats 1600000 in
theorem more_any (w : World) (c : Nat) (v : Value) (bs : List Nat) (hc : c < 4294967296) (h : Lies w v bs) (hb : Byt bs) :
    Calls Tryz.prog 113 #[.int .u32 c, v] w fun e w' => e = .returned (.int .u32 ((more c bs : Nat) : Int)) ∧ Below w.heap.size w w' := by
  have H := Lib.hid h
  have hcm : bs.length ≤ maxLen := by obtain ⟨_, _, _, h1, h2, _⟩ := h; omega
  unfold maxLen at hcm
  obtain ⟨ao, cap, rfl, _⟩ := h
  obtain ⟨r0, hr0⟩ : ∃ r0, r0 = 4294967295 - c := ⟨_, rfl⟩
  have e0 : bits .xor .u32 IntKind.u32.max (c : Int) = (r0 : Int) := by
    rw [show IntKind.u32.max = ((4294967295 : Nat) : Int) from rfl, x32 _ _ (by omega) hc, ones_xor c hc, hr0]
  have hr0l : r0 < 4294967296 := by omega
  have HR0 := Lib.hid hr0
  have HB := Lib.hid hb
  clear hr0 hb
  go_enter Tryz.func113, Tryz.ntmps113
  go_wp2_with fail
  refine (halves_any _).mono ?_
  rintro e w1 ⟨rfl, hb1⟩
  have HB1 := Lib.hid hb1
  have hg : (w1.alloc (.cells (tabRow 0) 160)).heap[w1.heap.size]? = some (.cells (tabRow 0) 160 (0, 0)) := heap_alloc_new w1 _
  have hT := setRow_heap (w1.alloc (.cells (tabRow 0) 160)) w1.heap.size (tabRow 0) (tabRow 16) 160 (0, 0) hg
  have hBW : Below w.heap.size w ((w1.alloc (.cells (tabRow 0) 160)).setRow w1.heap.size (tabRow 16)) := below_setRow (HB1.out.alloc HB1.out.size _) HB1.out.size _
  rw [tabRow_zero] at hT hBW hg
  clear hb1
  go_wp2_with (refine wpList_store_row rfl 160 (.tmp 5) (.tmp 8) rfl w1.heap.size (tabRow 16) rfl rfl 160 _ hg (by rw [tabRow_size]; kernel_rfl) (by rw [tabRow_size]; rfl) one16 ?_)
  have HT := Lib.hid (fun hh => fun hl => tab_cell hT (h := hh) hl)
  have HBW := Lib.hid hBW
  have HL := Lib.hid (H.out.later hBW)
  clear hg hT hBW H
  go_loop [0, 7, 13] (fun cv _ iv => ∃ i r : Nat, iv = .int .i64 i ∧ i ≤ bs.length ∧ cv = .int .u32 r ∧ r < 4294967296 ∧ Hid (r = reg r0 (bs.take i))) (fun _ _ iv => bs.length - (intOf iv).toNat)
  case atStart => exact ⟨0, r0, rfl, by omega, rfl, hr0l, Lib.hid rfl⟩
  case round =>
    obtain ⟨i, r, rfl, hi, rfl, hr, hS⟩ := hrel
    by_cases hlt : i < bs.length
    · obtain ⟨x, hx⟩ : ∃ x, bs[i]? = some x := ⟨_, List.getElem?_eq_getElem hlt⟩
      have hx256 := HB.out.at hx
      have htk := take_snoc' bs i x hx
      obtain ⟨ao', cap', e, _, _, h0, hcl⟩ := HL.out
      injection e with e1 e2 e3
      subst e1 e3
      cases ao with
      | none => have := (h0 rfl).1; rw [this] at hlt; simp at hlt
      | some b =>
        obtain ⟨k, o, rfl, _, hcl⟩ := hcl b rfl (ne_of_lt hlt)
        have d := hcl i x hx
        obtain ⟨y0, hy0⟩ : ∃ y0, y0 = r ^^^ x := ⟨_, rfl⟩
        have hy0l : y0 < 4294967296 := by rw [hy0]; exact xor_lt _ _ hr (by omega)
        have e1 : bits .xor .u32 (r : Int) (x : Int) = (y0 : Int) := by rw [x32 _ _ hr (by omega), hy0]
        obtain ⟨q0, l0, s0, y1, f1, f2, f3, f4, f5, f6, f7, f8⟩ := half_step y0 hy0l
        obtain ⟨q1, l1, s1, y2, g1, g2, g3, g4, g5, g6, g7, g8⟩ := half_step y1 f8
        have d0 := HT.out l0 f4
        have d1 := HT.out l1 g4
        rw [← f5] at d0
        rw [← g5] at d1
        have HN : Hid (y2 = reg r0 (bs.take (i + 1))) := Lib.hid (by
          rw [htk, reg_snoc, ← hS.out, g7, f7, hy0]; rfl)
        clear hcl h0 hx htk hy0 f5 f7 g5 g7 hS
        go_wp2
        go_round
        case rel => exact ⟨i + 1, y2, by go_num, by omega, rfl, g8, HN⟩
        case measure => simp [intOf]; omega
    · have hie : i = bs.length := by omega
      have E : (more c bs : Nat) = 4294967295 - r := by
        unfold more
        rw [hS.out, hie, List.take_length, HR0.out]
      have e1 : bits .xor .u32 IntKind.u32.max (r : Int) = ((more c bs : Nat) : Int) := by
        rw [show IntKind.u32.max = ((4294967295 : Nat) : Int) from rfl, x32 _ _ (by omega) hr, ones_xor r hr, E]
      clear E hS hie
      go_wp2
      go_returns
      exact ⟨rfl, HBW.out⟩

set_option maxRecDepth 100000 in
set_option maxHeartbeats 400000 in
theorem of_any (w : World) (v : Value) (bs : List Nat) (h : Lies w v bs) (hb : Byt bs) :
    Calls Tryz.prog 87 #[v] w fun e w' => e = .returned (.int .u32 ((more 0 bs : Nat) : Int)) ∧ Below w.heap.size w w' := by
  have H := Lib.hid (more_any w 0 v bs (by omega) h hb)
  obtain ⟨ao, cap, rfl, _⟩ := h
  go_enter Tryz.func87, Tryz.ntmps87
  go_wp2_with fail
  refine H.out.mono ?_
  rintro e w1 ⟨rfl, hb1⟩
  have HB := Lib.hid hb1
  clear hb1
  go_wp2
  go_returns
  exact ⟨rfl, HB.out⟩
end Go.Proofs.YtgbihpfpiaacfaaGreatDoor.Rc

