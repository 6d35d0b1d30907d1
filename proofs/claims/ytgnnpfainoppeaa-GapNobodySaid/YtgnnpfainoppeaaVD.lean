/- With, Get, a replica. -/
import Derived.Test.YtgnnpfainoppeaaVE
set_option linter.unusedVariables false
namespace Go.Proofs.Ytgnnpfainoppeaa.Ve
open Go.RowKit

def isB (rep : Int) : Bool := decide (0 ≤ rep ∧ rep < 64)
set_option maxRecDepth 100000 in
theorem is_any (w : World) (rep : Int) : Calls Try.prog 34 #[.int .i64 rep] w fun e w' => e = .returned (.bool (isB rep)) ∧ w = w' := by
  by_cases h1 : 0 ≤ rep
  · by_cases h2 : rep < 64
    · have HE := Lib.hid (show isB rep = true from decide_eq_true ⟨h1, h2⟩)
      go_enter Try.func34, Try.ntmps34
      go_wp2
      go_returns
      exact ⟨by rw [HE.out]; rfl, rfl⟩
    · have HE := Lib.hid (show isB rep = false from decide_eq_false (fun h => h2 h.2))
      go_enter Try.func34, Try.ntmps34
      go_wp2
      go_returns
      exact ⟨by rw [HE.out]; rfl, rfl⟩
  · have HE := Lib.hid (show isB rep = false from decide_eq_false (fun h => h1 h.1))
    go_enter Try.func34, Try.ntmps34
    go_wp2
    go_returns
    exact ⟨by rw [HE.out]; rfl, rfl⟩

def withF (l : List Int) (rep n : Int) : List Int := if isB rep then l.set rep.toNat n else l
set_option maxRecDepth 100000 in
set_option maxHeartbeats 800000 in
theorem with_any (w : World) (l : List Int) (hl : l.length = 64) (rep n : Int) : Calls Try.prog 23 #[vw l, .int .i64 rep, .int .i64 n] w fun e w' => e = .returned (vw (withF l rep n)) ∧ Below w.heap.size w w' := by
  have I := Lib.hid (fun W => is_any W rep)
  have X := Lib.hid (boxes w (va l) (va zs) 29)
  have AZ := Lib.hid (alloc_va z24 (w.alloc (.cells (va l) 29)))
  rw [World.size_alloc] at AZ
  have HL := Lib.hid hl
  have LD := Lib.hid (fun W (l' : List Int) (h1 : l'.length = 64) (h : W.heap[w.heap.size]? = some (.cells (va l') 29 (0, 0))) => load_va v24 W w.heap.size l' h1 h)
  have ST := Lib.hid (fun W (l' : List Int) (h1 : l'.length = 64) (h : W.heap[w.heap.size + 1]? = some (.cells (va zs) 29 (0, 0))) => store_va v24 W (w.heap.size + 1) (va zs) (by rw [va_size, zs_len]) l' h1 h)
  have HU := Lib.hid (show vw l = .agg (va l) from rfl)
  generalize hW : (w.alloc (.cells (va l) 29)).alloc (.cells (va zs) 29) = W at *
  cases hb : isB rep with
  | true =>
    have h : 0 ≤ rep ∧ rep < 64 := by simpa [isB] using hb
    obtain ⟨k, rfl⟩ : ∃ n : Nat, rep = (n : Int) := ⟨rep.toNat, by omega⟩
    obtain ⟨x, hx⟩ := va_len l hl k (by omega)
    have g := cell_va X.out.2.1 hx
    have f := frozen_of_row _ _ k _ _ X.out.2.1
    have HE := Lib.hid (show withF l (k : Int) n = l.set k n by unfold withF; rw [hb, if_pos rfl, Int.toNat_natCast])
    have HL2 := Lib.hid (show (l.set k n).length = 64 by rw [List.length_set]; exact hl)
    have R1 := Lib.hid (set_va X.out.2.1 k n)
    have R2 := Lib.hid (show (W.setCell ⟨w.heap.size, k, none⟩ (.int .i64 n)).heap[w.heap.size + 1]? = some (.cells (va zs) 29 (0, 0)) from (Below.heap_setCell _ _ _ _ (by show w.heap.size + 1 ≠ w.heap.size; omega)).trans X.out.2.2)
    have BX := Lib.hid (X.out.1.setCell (p := ⟨w.heap.size, k, none⟩) (Nat.le_refl _) (.int .i64 n))
    rw [hb] at I
    obtain ⟨h0, h1⟩ := h
    clear hb hW hx hl
    rw [HU.out]
    go_enter Try.func23, Try.ntmps23
    go_wp2_with (first | refine wpList_alloc_arr rfl 29 rfl _ _ AZ.out ?_ | refine wpList_load_arr rfl (.tmp 3) 29 rfl _ _ rfl (LD.out _ _ HL2.out R1.out) ?_ | refine wpList_store_arr rfl (.tmp 6) (.tmp 12) 29 rfl _ _ rfl rfl _ (ST.out _ _ HL2.out R2.out) ?_ | (go_at_call 34; refine (I.out _).mono ?_; rintro e w1 ⟨rfl, rfl⟩))
    refine bodyPost_ret (ret_va (b := w.heap.size + 1) rfl v24 HL2.out rfl (setRow_heap _ _ _ _ _ _ R2.out)) rfl ⟨by rw [HE.out], below_setRow BX.out (by omega) _⟩
  | false =>
    have HE := Lib.hid (show withF l rep n = l by unfold withF; rw [hb]; rfl)
    rw [hb] at I
    clear hb hW hl
    rw [HU.out]
    go_enter Try.func23, Try.ntmps23
    go_wp2_with (first | refine wpList_alloc_arr rfl 29 rfl _ _ AZ.out ?_ | refine wpList_load_arr rfl (.tmp 3) 29 rfl _ _ rfl (LD.out W l HL.out X.out.2.1) ?_ | refine wpList_store_arr rfl (.tmp 6) (.tmp 12) 29 rfl _ _ rfl rfl _ (ST.out W l HL.out X.out.2.2) ?_ | (go_at_call 34; refine (I.out _).mono ?_; rintro e w1 ⟨rfl, rfl⟩))
    refine bodyPost_ret (ret_va (b := w.heap.size + 1) rfl v24 HL.out rfl (setRow_heap _ _ _ _ _ _ X.out.2.2)) rfl ⟨by rw [HE.out], below_setRow X.out.1 (by omega) _⟩
end Go.Proofs.Ytgnnpfainoppeaa.Ve


