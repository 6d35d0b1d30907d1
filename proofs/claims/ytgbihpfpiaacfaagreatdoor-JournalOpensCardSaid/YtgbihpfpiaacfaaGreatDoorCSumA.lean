/- The table of halves, and the sum, of both. -/
import Derived.Test.YtgbihpfpiaacfaaGreatDoorCSBase
set_option linter.unusedVariables false
namespace Go.Proofs.YtgbihpfpiaacfaaGreatDoor.Rc
open Go.RowKit

def tabRow (k : Nat) : Array Value := ((List.range 16).map fun h => Value.int .u32 ((if h < k then stn 4 h else 0 : Nat) : Int)).toArray
theorem tabRow_size (k : Nat) : (tabRow k).size = 16 := by unfold tabRow; simp
theorem tabRow_get (k h : Nat) (hh : h < 16) : (tabRow k)[h]? = some (.int .u32 ((if h < k then stn 4 h else 0 : Nat) : Int)) := by
  unfold tabRow
  rw [List.getElem?_toArray, List.getElem?_map, List.getElem?_range hh]
  rfl
theorem tabRow_zero : tabRow 0 = #[.int .u32 0, .int .u32 0, .int .u32 0, .int .u32 0, .int .u32 0, .int .u32 0, .int .u32 0, .int .u32 0, .int .u32 0, .int .u32 0, .int .u32 0, .int .u32 0, .int .u32 0, .int .u32 0, .int .u32 0, .int .u32 0] := by rfl
theorem tabRow_set (k : Nat) (hk : k < 16) : (tabRow k).setIfInBounds k (.int .u32 ((stn 4 k : Nat) : Int)) = tabRow (k + 1) := by
  apply Array.ext_getElem?
  intro i
  rw [Array.getElem?_setIfInBounds]
  by_cases hi : i < 16
  · by_cases e : k = i
    · subst e
      rw [if_pos rfl, if_pos (by rw [tabRow_size]; exact hk), tabRow_get _ _ hk, if_pos (by omega)]
    · rw [if_neg e, tabRow_get _ _ hi, tabRow_get _ _ hi]
      by_cases hlt : i < k
      · rw [if_pos hlt, if_pos (by omega)]
      · rw [if_neg hlt, if_neg (by omega)]
  · have h1 : (tabRow k)[i]? = none := by rw [Array.getElem?_eq_none (by rw [tabRow_size]; omega)]
    have h2 : (tabRow (k + 1))[i]? = none := by rw [Array.getElem?_eq_none (by rw [tabRow_size]; omega)]
    rw [h1, h2]
    split
    · rw [if_neg (by rw [tabRow_size]; omega)]
    · rfl
theorem row_setC {w : World} {b j : Nat} {c : Array Value} {t : TypeId} {fz : Nat × Nat} {u : Value} (h : w.heap[b]? = some (.cells c t fz)) : (w.setCell ⟨b, j, none⟩ u).heap[b]? = some (.cells (c.setIfInBounds j u) t fz) := by
  have hlt := (Array.getElem?_eq_some_iff.1 h).1
  have h' : w.heap[b] = .cells c t fz := by simpa [Array.getElem?_eq_getElem hlt] using h
  show (w.heap.modify b _)[b]? = _
  rw [Array.getElem?_eq_getElem (by simpa using hlt), Array.getElem_modify_self, h']
  rfl

theorem below_setRow {w wr : World} {B g : Nat} (h : Below B w wr) (hg : B ≤ g) (cs : Array Value) : Below B w (wr.setRow g cs) :=
  ⟨h.os, h.tape, h.output, by simpa [World.setRow] using h.size, fun k hk => (setRow_other wr g k cs (by omega)).trans (h.block k hk)⟩
theorem one16 : (tabRow 16).all (·.oneCell') = true := by kernel_rfl
/-- While the table is filled. -/
structure TabI (w wr : World) (k : Nat) : Prop where
  b : Below w.heap.size w wr
  t : wr.heap[w.heap.size + 1]? = some (.cells (tabRow k) 160 (0, 0))
  r : wr.heap[w.heap.size]? = some (.cells (tabRow 0) 160 (0, 0))
theorem TabI.start (w : World) : TabI w ((w.alloc (.cells (tabRow 0) 160)).alloc (.cells (tabRow 0) 160)) 0 := by
  refine ⟨((Below.refl _ _).alloc (Nat.le_refl _) _).alloc (by simp) _, ?_, ?_⟩
  · have := heap_alloc_new (w.alloc (.cells (tabRow 0) 160)) (.cells (tabRow 0) 160)
    simpa using this
  · have h1 := heap_alloc_new w (.cells (tabRow 0) 160)
    have h2 := Below.heap_alloc (w.alloc (.cells (tabRow 0) 160)) (.cells (tabRow 0) 160) w.heap.size (by simp)
    rw [h2]; exact h1
theorem TabI.set {w wr : World} {k : Nat} (h : TabI w wr k) (hk : k < 16) : TabI w (wr.setCell ⟨w.heap.size + 1, k, none⟩ (.int .u32 ((stn 4 k : Nat) : Int))) (k + 1) := by
  refine ⟨h.b.setCell (by simp) _, ?_, ?_⟩
  · rw [row_setC h.t, tabRow_set k hk]
  · rw [Below.heap_setCell _ _ _ _ (by simp)]; exact h.r
theorem TabI.cell {w wr : World} {k : Nat} (h : TabI w wr k) (hk : k < 16) : wr.cell? ⟨w.heap.size + 1, k, none⟩ = some (.int .u32 0) ∧ wr.frozen? ⟨w.heap.size + 1, k, none⟩ = false := by
  refine ⟨?_, frozen_of_row _ _ _ _ _ h.t⟩
  rw [cell_of_row _ _ _ _ _ _ h.t, tabRow_get _ _ hk, if_neg (by omega)]
  rfl

set_option maxRecDepth 100000 in
set_option maxHeartbeats 1600000 in
theorem halves_any (w : World) : Calls Tryz.prog 125 #[] w fun e w' => e = .returned (.agg (tabRow 16)) ∧ Below w.heap.size w w' := by
  have HS := Lib.hid (TabI.start w)
  rw [tabRow_zero] at HS
  go_enter Tryz.func125, Tryz.ntmps125
  go_wp2
  go_loopw [2, 3, 4, 5] (fun _ _ _ kv wr => ∃ k : Nat, kv = .int .u32 k ∧ k ≤ 16 ∧ Hid (TabI w wr k)) (fun _ _ _ kv _ => 16 - (intOf kv).toNat)
  case atStart => exact ⟨0, rfl, by omega, HS.out⟩
  case round =>
    obtain ⟨k, rfl, hk, hI⟩ := hrel
    by_cases hlt : k < 16
    · obtain ⟨c0, f0⟩ := hI.out.cell hlt
      have HN := Lib.hid (hI.out.set hlt)
      go_wp2
      go_loop [3, 4, 9] (fun rv _ jv => ∃ j r : Nat, jv = .int .i64 j ∧ j ≤ 4 ∧ rv = .int .u32 r ∧ r < 4294967296 ∧ Hid (r = stn j k)) (fun _ _ jv => 4 - (intOf jv).toNat)
      case atStart => exact ⟨0, k, rfl, by omega, rfl, by omega, Lib.hid rfl⟩
      case round =>
        obtain ⟨j, r, rfl, hj, rfl, hr, hS⟩ := hrel
        by_cases hlj : j < 4
        · obtain ⟨q, hq⟩ : ∃ q, q = r / 2 := ⟨_, rfl⟩
          have e2 : (r : Int) / 2 = (q : Int) := by omega
          have hs1 := stn_succ j k
          rw [← hS.out] at hs1
          have hlt1 := st_lt r hr
          by_cases hodd : r % 2 = 1
          · have e1 : bits .and .u32 (r : Int) 1 = 1 := by rw [and1 r hr, hodd]; rfl
            have e3 : bits .xor .u32 (q : Int) 2197175160 = ((st r : Nat) : Int) := by
              rw [show (2197175160 : Int) = ((rule : Nat) : Int) from rfl, x32 _ _ (by omega) rule_lt, hq]
              unfold st; rw [if_pos hodd]
            generalize st r = s at *
            have HX := Lib.hid hs1
            clear hs1 hodd hq hS
            go_wp2
            go_round
            case rel => exact ⟨j + 1, s, by go_num, by omega, rfl, hlt1, Lib.hid HX.out.symm⟩
            case measure => simp [intOf]; omega
          · have e1 : bits .and .u32 (r : Int) 1 = 0 := by rw [and1 r hr, show r % 2 = 0 by omega]; rfl
            have e3 : st r = q := by unfold st; rw [if_neg hodd, hq]
            rw [e3] at hs1
            have hq2 : q < 4294967296 := by omega
            have HX := Lib.hid hs1
            clear hs1 hodd hq hS e3 hlt1
            go_wp2
            go_round
            case rel => exact ⟨j + 1, q, by go_num, by omega, rfl, hq2, Lib.hid HX.out.symm⟩
            case measure => simp [intOf]; omega
        · obtain rfl : j = 4 := by omega
          have HR := hS.out
          rw [← HR] at HN
          clear hS HR
          go_wp2
          go_roundw
          case rel => exact ⟨k + 1, by go_num, by omega, HN⟩
          case measure => simp [intOf]; omega
    · obtain rfl : k = 16 := by omega
      have hT := hI.out.t
      have hR := hI.out.r
      have hb := hI.out.b
      have HB := Lib.hid hb
      have HR2 : Hid ((wr.setRow w.heap.size (tabRow 16)).heap[w.heap.size]? = some (.cells (tabRow 16) 160 (0, 0))) := Lib.hid (setRow_heap wr w.heap.size _ _ 160 (0, 0) hR)
      clear hb
      go_wp2_with (first
        | (refine wpList_load_row rfl 160 (.tmp 1) rfl (w.heap.size + 1) rfl 160 (tabRow 16) (0, 0) _ hT Tryz.underlying160 rfl (by rw [tabRow_size]; kernel_rfl) ?_)
        | (refine wpList_store_row rfl 160 (.tmp 0) (.tmp 24) rfl w.heap.size (tabRow 16) rfl rfl 160 (tabRow 0) hR (by rw [tabRow_size]; kernel_rfl) (by rw [tabRow_size, tabRow_size]) one16 ?_))
      refine bodyPost_ret (v := .agg (tabRow 16)) (results_cell_row rfl _ _ w.heap.size 160 (tabRow 16) (0, 0) _ rfl HR2.out Tryz.underlying160 rfl (by rw [tabRow_size]; kernel_rfl)) rfl ⟨rfl, ?_⟩
      exact below_setRow HB.out (Nat.le_refl _) _
end Go.Proofs.YtgbihpfpiaacfaaGreatDoor.Rc

