/- The chapter's example of undoing. Made by genhm38.py. -/
import Derived.Test.YthbmbpnpigpgpaaHJ
import Derived.Test.YthbmbpnpigpgpaaHL
set_option linter.unusedVariables false
set_option linter.unusedSimpArgs false
set_option maxRecDepth 100000
namespace Go.Proofs.Ythbmbpnpigpgpaa
open Go.RowKit

def ha : Ch := ⟨true, 0, 0, 0, 0, ⟨#[97]⟩, true⟩
def hz : Ch := ⟨false, 5, 0, 0, 1, ⟨#[97]⟩, true⟩
theorem back_ha : backF [] (namedF [(5, 0)] [ha]) = [hz] := by rfl
theorem i64h (x : Int) (h : -1000 ≤ x ∧ x ≤ 1000) : I64 x := by unfold I64; omega
theorem ha_ok : OkH ha := ⟨i64h 0 (by omega), i64h 0 (by omega), i64h 0 (by omega), i64h 0 (by omega)⟩
set_option maxHeartbeats 6400000 in
theorem hawake_any (w : World) : Calls Try.prog 6 #[] w fun e w' => e = .returned (.bool true) ∧ Below w.heap.size w w' := by
  have N := Lib.hid (cnew_any w)
  go_enter Try.func6, Try.ntmps6
  go_wp2_with fail
  refine N.out.mono ?_
  rintro e w1 ⟨c, p, b, tb, rfl, hc, h1, h2, h3, h4, hB⟩
  have B2 := vstep w1 (.cells #[.bool true, .int .i64 0, .int .i64 0, .int .i64 0, .int .i64 0, .string ⟨#[97]⟩, .bool true] 71)
  have B3 := vstep (w1.alloc (.cells #[.bool true, .int .i64 0, .int .i64 0, .int .i64 0, .int .i64 0, .string ⟨#[97]⟩, .bool true] 71)) (.cells #[.int .i64 5, .int .i64 0] 61)
  have N2 := heap_alloc_new w1 (.cells #[.bool true, .int .i64 0, .int .i64 0, .int .i64 0, .int .i64 0, .string ⟨#[97]⟩, .bool true] 71)
  have N3 := heap_alloc_new (w1.alloc (.cells #[.bool true, .int .i64 0, .int .i64 0, .int .i64 0, .int .i64 0, .string ⟨#[97]⟩, .bool true] 71)) (.cells #[.int .i64 5, .int .i64 0] 61)
  rw [World.size_alloc] at N3
  have LV := Lib.hid (one_liesK (enc := encH) (p := ha) encH_len ((B3.block _ (lt_of_block N2)).trans N2))
  have LU := Lib.hid (one_liesK (enc := encS) (p := ((5, 0) : Sp)) encS_len N3)
  have BB := Lib.hid (hB.trans ((B2.trans (B3.mono B2.size)).mono hB.size))
  have CC := Lib.hid ((hc.step B2).step B3)
  have BK := Lib.hid (back_any _ c p b tb [] _ _ [ha] [(5, 0)] CC.out LV.out LU.out (by simp) (by simp) (by simp) (by intro x hx; rw [List.mem_singleton.1 hx]; exact ha_ok) (by intro x hx; rw [List.mem_singleton.1 hx]; exact ⟨i64h 5 (by omega), i64h 0 (by omega)⟩))
  rw [back_ha] at BK
  clear hc h1 h2 h3 h4 hB B2 B3 N2 N3 LV LU CC
  go_wp2_with fail
  refine BK.out.mono ?_
  rintro e w3 ⟨r, rfl, ho, hb⟩
  obtain ⟨ra, rc, rfl⟩ := own_shapeK ho
  obtain ⟨g, o, x, rfl, hx, hg, d⟩ := (own_liesK encH_len ho).at' (show 0 < [hz].length from by simp)
  obtain rfl : hz = x := by simpa using hx
  have d0 := d 0 _ rfl
  have d1 := d 1 _ rfl
  have d2 := d 2 _ rfl
  have d3 := d 3 _ rfl
  have d4 := d 4 _ rfl
  have d5 := d 5 _ rfl
  have d6 := d 6 _ rfl
  simp only [Nat.zero_mul, Nat.add_zero, hz] at d0 d1 d2 d3 d4 d5 d6
  have BF := Lib.hid (BB.out.trans (hb.mono BB.out.size))
  clear ho hb hx hg d BK
  go_wp2
  go_returns
  exact ⟨rfl, BF.out⟩
end Go.Proofs.Ythbmbpnpigpgpaa
