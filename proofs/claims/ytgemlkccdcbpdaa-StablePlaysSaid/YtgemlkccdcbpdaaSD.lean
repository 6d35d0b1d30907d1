/- Cut, Meet. -/
import Derived.Test.YtgemlkccdcbpdaaSC
set_option linter.unusedVariables false
namespace Go.Proofs.Ytgemlkccdcbpdaa
open Go.RowKit

def cutT (f : Int) : Int := if f = 0 then 0 else f
def cutR (f : Int) : Int := if f = 0 then 0 else 63
def meetAll (ms : List Mb) : List Int := ms.foldl (fun a m => meetF a m.1) (memF ms 0).1
theorem foldmeet_len : ∀ (l : List Mb) (a : List Int), a.length = 64 → (∀ m ∈ l, m.1.length = 64) → (l.foldl (fun a m => meetF a m.1) a).length = 64
  | [], a, h, _ => h
  | m :: r, a, h, hm => foldmeet_len r _ (meetF_len h (hm m (List.mem_cons_self ..))) (fun x hx => hm x (List.mem_cons_of_mem _ hx))
theorem mem64 {ms : List Mb} (h : ∀ (i : Nat) m, ms[i]? = some m → m.1.length = 64) : ∀ m ∈ ms, m.1.length = 64 := fun m hm => by
  obtain ⟨i, hi⟩ := List.mem_iff_getElem?.1 hm
  exact h i m hi
theorem meetAll_len {ms : List Mb} (h : ∀ (i : Nat) m, ms[i]? = some m → m.1.length = 64) : (meetAll ms).length = 64 := foldmeet_len ms _ (memF_len h 0) (mem64 h)

set_option maxRecDepth 100000 in
set_option maxHeartbeats 1600000 in
theorem cut_any (w : World) (v : Value) (sf : Int) (ms : List Mb) (h : Rec w v sf ms) (hM : ∀ (i : Nat) m, ms[i]? = some m → m.1.length = 64) : Calls Try.prog 19 #[v] w fun e w' => e = .returned (.agg #[.int .i64 (cutT (floorF ms)), .int .i64 (cutR (floorF ms))]) ∧ Below w.heap.size w w' := by
  have X := Lib.hid (vstep w (.cells #[.int .i64 0, .int .i64 0] 44))
  have XB := Lib.hid (heap_alloc_new w (.cells #[.int .i64 0, .int .i64 0] 44))
  have FL := Lib.hid (floor_any _ v sf ms (h.step X.out) hM)
  generalize floorF ms = f at *
  clear h hM
  by_cases h0 : f = 0
  · have HE := Lib.hid (show cutT f = 0 ∧ cutR f = 0 by unfold cutT cutR; rw [if_pos h0, if_pos h0]; exact ⟨rfl, rfl⟩)
    go_enter Try.func19, Try.ntmps19
    go_wp2_with fail
    refine FL.out.mono ?_
    rintro e w1 ⟨rfl, hb1⟩
    have N1 := Lib.hid ((hb1.block _ (lt_of_block XB.out)).trans XB.out)
    have B1 := Lib.hid (X.out.trans (hb1.mono X.out.size))
    have d0 := (cell_of_row w1 w.heap.size 0 _ _ _ N1.out)
    have d1 := (cell_of_row w1 w.heap.size 1 _ _ _ N1.out)
    have f0 := frozen_of_row w1 w.heap.size 0 _ _ N1.out
    have f1 := frozen_of_row w1 w.heap.size 1 _ _ N1.out
    clear hb1
    go_wp2
    refine bodyPost_ret (by simp [results, Try.results19, go_sem, d0, d1]; try rfl) rfl ⟨by rw [HE.out.1, HE.out.2], ?_⟩
    exact (B1.out.setCell (p := ⟨w.heap.size, 0, none⟩) (Nat.le_refl _) _).setCell (p := ⟨w.heap.size, 1, none⟩) (Nat.le_refl _) _
  · have HE := Lib.hid (show cutT f = f ∧ cutR f = 63 by unfold cutT cutR; rw [if_neg h0, if_neg h0]; exact ⟨rfl, rfl⟩)
    go_enter Try.func19, Try.ntmps19
    go_wp2_with fail
    refine FL.out.mono ?_
    rintro e w1 ⟨rfl, hb1⟩
    have N1 := Lib.hid ((hb1.block _ (lt_of_block XB.out)).trans XB.out)
    have B1 := Lib.hid (X.out.trans (hb1.mono X.out.size))
    have d0 := (cell_of_row w1 w.heap.size 0 _ _ _ N1.out)
    have d1 := (cell_of_row w1 w.heap.size 1 _ _ _ N1.out)
    have f0 := frozen_of_row w1 w.heap.size 0 _ _ N1.out
    have f1 := frozen_of_row w1 w.heap.size 1 _ _ N1.out
    clear hb1
    go_wp2
    refine bodyPost_ret (by simp [results, Try.results19, go_sem, d0, d1]; try rfl) rfl ⟨by rw [HE.out.1, HE.out.2], ?_⟩
    exact (B1.out.setCell (p := ⟨w.heap.size, 0, none⟩) (Nat.le_refl _) _).setCell (p := ⟨w.heap.size, 1, none⟩) (Nat.le_refl _) _

end Go.Proofs.Ytgemlkccdcbpdaa
