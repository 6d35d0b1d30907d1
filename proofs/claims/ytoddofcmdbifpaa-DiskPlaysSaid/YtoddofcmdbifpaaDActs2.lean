/- The ends of disk's rows: acts with their ranges, opened. -/
import Derived.Test.YtoddofcmdbifpaaDActs
import Derived.Test.YtoddofcmdbifpaaSHJ
import Derived.ProofKit
import Derived.LaidMore
import Derived.OpenShut
import Derived.Stop.Joined
import Derived.SevenTiedAt
import Derived.Carry
import Derived.Lib.SmallJoins
import Derived.Deep.Slices
import Derived.Shelf.Vars
import Derived.Lay
set_option linter.unusedVariables false
namespace Go.Proofs.Ytoddofcmdbifpaa
open Go.ChangeShapes Go.WideShapes Go.ChangeAt Go.RowKit Go.Joins Go.Deep

set_option maxRecDepth 100000 in
theorem open_act2 {H : Type} {enc : TypeId × Value → H} {W : World} {fuel : Nat} {cs : List Value} {x : DataW H × List MemPlace} (h : DataW.trod enc Try.prog W 0 (fun _ => true) true fuel 36 cs = some x) :
    ∃ p : Ac, AcOk2 W p ∧ cs = enc6 p := by
  obtain ⟨xs, n, _, _, hlen, hxl, hf⟩ := DataW.trod_struct und36 h
  rw [cel36] at hlen
  match cs, hlen with
  | [u0, u1, u2, u3, u4, u5], _ =>
    obtain ⟨g0, e0, o0, t0⟩ := field_at f36_0
    have k0 := hf 0 g0 e0
    obtain ⟨g1, e1, o1, t1⟩ := field_at f36_1
    have k1 := hf 1 g1 e1
    obtain ⟨g2, e2, o2, t2⟩ := field_at f36_2
    have k2 := hf 2 g2 e2
    obtain ⟨g3, e3, o3, t3⟩ := field_at f36_3
    have k3 := hf 3 g3 e3
    obtain ⟨g4, e4, o4, t4⟩ := field_at f36_4
    have k4 := hf 4 g4 e4
    obtain ⟨g5, e5, o5, t5⟩ := field_at f36_5
    have k5 := hf 5 g5 e5
    have hs : xs.length = 6 := by rw [hxl]; kernel_rfl
    rw [o0, t0, (show Try.prog.cellsOf 3 = 1 by kernel_rfl), List.getElem?_eq_getElem (by omega)] at k0
    obtain ⟨a0, ha0, _, w0⟩ := DataW.trod_int (show Try.prog.underlying 3 = some (.int .i64) by kernel_rfl) k0
    simp at ha0
    rw [o1, t1, (show Try.prog.cellsOf 5 = 1 by kernel_rfl), List.getElem?_eq_getElem (by omega)] at k1
    obtain ⟨a1, ha1, _, w1⟩ := DataW.trod_int (show Try.prog.underlying 5 = some (.int .u8) by kernel_rfl) k1
    simp at ha1
    rw [o2, t2, (show Try.prog.cellsOf 5 = 1 by kernel_rfl), List.getElem?_eq_getElem (by omega)] at k2
    obtain ⟨a2, ha2, _, w2⟩ := DataW.trod_int (show Try.prog.underlying 5 = some (.int .u8) by kernel_rfl) k2
    simp at ha2
    rw [o3, t3, (show Try.prog.cellsOf 3 = 1 by kernel_rfl), List.getElem?_eq_getElem (by omega)] at k3
    obtain ⟨a3, ha3, _, w3⟩ := DataW.trod_int (show Try.prog.underlying 3 = some (.int .i64) by kernel_rfl) k3
    simp at ha3
    rw [o4, t4, (show Try.prog.cellsOf 33 = 1 by kernel_rfl), List.getElem?_eq_getElem (by omega)] at k4
    obtain ⟨b1, b2, b3, hb, ha4⟩ := open_u8s k4
    simp at ha4
    rw [o5, t5, (show Try.prog.cellsOf 34 = 1 by kernel_rfl), List.getElem?_eq_getElem (by omega)] at k5
    obtain ⟨d1, d2, d3, hd, ha5⟩ := open_i64s k5
    simp at ha5
    simp [Lit.wf, IntKind.min, IntKind.max, IntKind.bits, IntKind.signed] at w0 w1 w2 w3
    exact ⟨⟨a0, a1, a2, a3, b1, b2, b3, d1, d2, d3⟩, ⟨⟨hb, hd, by show -9223372036854775808 ≤ a3 ∧ a3 ≤ 9223372036854775807; omega⟩, by show 0 ≤ a1 ∧ a1 ≤ 255; omega, by show 0 ≤ a2 ∧ a2 ≤ 255; omega, by show -9223372036854775808 ≤ a0 ∧ a0 ≤ 9223372036854775807; omega⟩, by simp [enc6, *]⟩
section
variable {H : Type} {enc : TypeId × Value → H} {W : World}
set_option maxRecDepth 100000 in
theorem view_acts2 {v : Value} {d : DataW H} {ps : List MemPlace} {b0 : Nat} {r : Reach} (hv : Value.okWide Try.prog W r b0 22 v) (h : DataW.Trod enc Try.prog W 0 (fun _ => true) true 22 v d ps) :
    ∃ l, LiesK enc6 6 W v l ∧ ∀ x ∈ l, AcOk2 W x := by
  letI : Inhabited Ac := ⟨⟨0, 0, 0, 0, none, 0, [], none, 0, []⟩⟩
  obtain ⟨ao, cap, l, h1, h2, h3, h4, h5, h6⟩ := view_slice Try.u22 cel36 (Nat.succ_pos _) (fun (x : Ac) => AcOk2 W x) enc6 (fun h => open_act2 h) hv h
  exact ⟨l, ⟨ao, cap, h1, h2, h3, h4, h5⟩, h6⟩
end
end Go.Proofs.Ytoddofcmdbifpaa
