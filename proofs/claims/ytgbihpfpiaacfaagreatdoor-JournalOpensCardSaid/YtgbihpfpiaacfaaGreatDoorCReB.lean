/- Size, Put. -/
import Derived.Test.YtgbihpfpiaacfaaGreatDoorCReA
import Derived.Test.YtgbihpfpiaacfaaGreatDoorCRMath
set_option linter.unusedVariables false
namespace Go.Proofs.YtgbihpfpiaacfaaGreatDoor.Rc
open Go.RowKit

set_option maxRecDepth 100000 in
set_option maxHeartbeats 400000 in
theorem size_nat (w : World) (n : Nat) (h : n ≤ 1000000) : Calls Tryz.prog 57 #[.int .i64 (n : Int)] w fun e w' => e = .returned (.int .i64 ((n : Int) + 8)) ∧ w = w' := by
  go_enter Tryz.func57, Tryz.ntmps57
  go_wp2
  go_returns
  exact ⟨rfl, rfl⟩
set_option maxRecDepth 100000 in
set_option maxHeartbeats 400000 in
theorem size_no (w : World) : Calls Tryz.prog 57 #[.int .i64 (-1)] w fun e w' => e = .returned (.int .i64 8) ∧ w = w' := by
  go_enter Tryz.func57, Tryz.ntmps57
  go_wp2
  go_returns
  exact ⟨rfl, rfl⟩
theorem hd_cells (n : Nat) (h : n ≤ 65536) : (#[Value.int IntKind.u8 ((n : Int) % 256), Value.int IntKind.u8 ((n : Int) / 256 % 256), Value.int IntKind.u8 ((n : Int) / 65536), Value.int IntKind.u8 ((n : Int) / 16777216)] : Array Value) = (u8s (le4 n)).toArray := by
  have e0 : ((n % 256 : Nat) : Int) = (n : Int) % 256 := by omega
  have e1 : ((n / 256 % 256 : Nat) : Int) = (n : Int) / 256 % 256 := by omega
  have e2 : ((n / 65536 % 256 : Nat) : Int) = (n : Int) / 65536 := by omega
  have e3 : ((n / 16777216 % 256 : Nat) : Int) = (n : Int) / 16777216 := by omega
  unfold u8s le4
  simp only [List.map_cons, List.map_nil, e0, e1, e2, e3]
theorem rows_two {w W3 : World} {v1 v2 : Value} {l m : List Nat} {g : Nat} (h1 : Lies W3 v1 l) (h2 : Lies W3 v2 m) (hl : Byt l) (hm : Byt m) (hg : W3.heap[g]? = some (.cells #[v1, v2] 39 (0, 0))) : Rows2 W3 (.slice (some ⟨g, 0, none⟩) 2 2) [(v1, l), (v2, m)] := by
  refine ⟨some ⟨g, 0, none⟩, 2, rfl, (fun e => by cases e), fun b hb => ?_, fun p hp => ?_⟩
  · cases hb
    refine ⟨g, 0, rfl, (Array.getElem?_eq_some_iff.1 hg).1, fun j p hj => ?_⟩
    match j, hj with
    | 0, hj => rw [cell_of_row _ _ _ _ _ _ hg]; injection hj with hj; subst hj; rfl
    | 1, hj => rw [cell_of_row _ _ _ _ _ _ hg]; injection hj with hj; subst hj; rfl
    | j + 2, hj => simp at hj
  · rcases List.mem_cons.1 hp with rfl | hp
    · exact ⟨h1, hl⟩
    · rcases List.mem_cons.1 hp with rfl | hp
      · exact ⟨h2, hm⟩
      · cases hp
theorem RowOut.from2 {w w1 w' : World} {r : Value} {bs : List Nat} (h : RowOut w1 w' r bs) (hb : Below w.heap.size w w1) : RowOut w w' r bs := by
  refine ⟨?_, hb.trans (h.2.mono hb.size)⟩
  have hle := hb.size
  rcases h.1 with ⟨hlen, hrest⟩
  refine ⟨hlen, ?_⟩
  rcases hrest with h | ⟨g, cap, cur, e, hB, rest⟩
  · exact .inl h
  · exact .inr ⟨g, cap, cur, e, by omega, rest⟩

set_option maxRecDepth 100000 in
set_option maxHeartbeats 800000 in
theorem put_any (w : World) (v : Value) (bs : List Nat) (h : Lies w v bs) (hb : Byt bs) (hl : bs.length ≤ 65536) :
    Calls Tryz.prog 41 #[v] w fun e w' => ∃ r, e = .returned (.tuple #[r, .int .i64 0]) ∧ RowOut w w' r (rec bs) := by
  have H := Lib.hid h
  have HC := Lib.hid (hd_cells bs.length hl)
  obtain ⟨ao, cap, rfl, _⟩ := h
  obtain ⟨W1, hW1⟩ : ∃ W1, W1 = (w.alloc (.cells (u8s (le4 bs.length)).toArray 5)).alloc (.cells #[.slice (some ⟨w.heap.size, 0, none⟩) 4 4, .slice ao bs.length cap] 39) := ⟨_, rfl⟩
  have hB : Below w.heap.size w W1 := by rw [hW1]; exact ((Below.refl _ _).alloc (Nat.le_refl _) _).alloc (by simp) _
  have hL1 : Lies W1 (.slice (some ⟨w.heap.size, 0, none⟩) 4 4) (le4 bs.length) := by
    have := own_lies (own_new w (le4 bs.length) (by unfold maxLen; show 4 ≤ _; omega))
    rw [hW1]
    exact this.later ((Below.refl _ _).alloc (Nat.le_refl _) _)
  have hL2 := H.out.later hB
  have hg : W1.heap[w.heap.size + 1]? = some (.cells #[.slice (some ⟨w.heap.size, 0, none⟩) 4 4, .slice ao bs.length cap] 39 (0, 0)) := by
    rw [hW1]
    simpa using heap_alloc_new (w.alloc (.cells (u8s (le4 bs.length)).toArray 5)) (.cells #[.slice (some ⟨w.heap.size, 0, none⟩) 4 4, .slice ao bs.length cap] 39)
  have hR := rows_two (w := w) hL1 hL2 (fun x hx => le4_lt _ x hx) hb hg
  have ec : cats [(Value.slice (some ⟨w.heap.size, 0, none⟩) 4 4, le4 bs.length), (Value.slice ao bs.length cap, bs)] = le4 bs.length ++ bs := by unfold cats; simp
  have hlc : (le4 bs.length ++ bs).length = 4 + bs.length := by rw [List.length_append]; rfl
  have hcb : Byt (le4 bs.length ++ bs) := Byt.append (fun x hx => le4_lt _ x hx) hb
  have hC := concat_any W1 _ _ hR (by simp) (by rw [ec, hlc]; omega)
  rw [ec] at hC
  have hS := Lib.hid (fun W u (hu : Lies W u (le4 bs.length ++ bs)) => seal_any W u _ hu hcb (by rw [hlc]; omega))
  have hre : Hid (seal' (le4 bs.length ++ bs) = rec bs) := Lib.hid rfl
  generalize le4 bs.length ++ bs = cs at *
  generalize u8s (le4 bs.length) = hd at *
  have HW := Lib.hid hW1
  have HCC := Lib.hid hC
  have HB := Lib.hid hB
  clear hW1 hB hL1 hL2 hg hR ec hcb hC hb hlc
  go_enter Tryz.func41, Tryz.ntmps41
  go_wp2_with fail
  rw [HC.out, ← HW.out]
  refine HCC.out.mono ?_
  rintro e w2 ⟨r, rfl, ho⟩
  have B2 := Lib.hid (HB.out.trans (ho.2.mono HB.out.size))
  have L2 := Lib.hid (own_lies ho.1)
  obtain ⟨ra, rc, rfl⟩ := own_shape ho.1
  clear ho
  go_wp2_with fail
  refine (hS.out _ _ L2.out).mono ?_
  rintro e w3 ⟨r, rfl, ho⟩
  have HQ : Hid (RowOut w w3 r (rec bs)) := Lib.hid (by rw [← hre.out]; exact ho.from2 B2.out)
  obtain ⟨ra, rc, rfl⟩ := own_shape ho.1
  clear ho
  go_wp2
  go_returns
  exact ⟨_, rfl, HQ.out⟩

end Go.Proofs.YtgbihpfpiaacfaaGreatDoor.Rc

