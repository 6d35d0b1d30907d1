/- The ends of table's rows: acts, opened. -/
import Derived.Test.YtegmlekeielmoaaTEnds
import Derived.Test.YtegmlekeielmoaaUD
import Derived.ProofKit
import Derived.LaidMore
import Derived.OpenShut
import Derived.Stop.Joined
import Derived.SevenTiedAt
import Derived.Carry
import Derived.Lib.SmallJoins
import Derived.Deep.Slices
import Derived.Shelf.Vars
import Derived.Lay
set_option linter.unusedVariables false
namespace Go.Proofs.Ytegmlekeielmoaa
open Go.ChangeShapes Go.WideShapes Go.ChangeAt Go.RowKit Go.Joins Go.Deep

noncomputable def fs31 : Array Field := match Try.prog.underlying 31 with | some (.struct f) => f | _ => #[]
theorem und31 : Try.prog.underlying 31 = some (.struct fs31) := by kernel_rfl
theorem cel31 : Try.prog.cellsOf 31 = 7 := by kernel_rfl
theorem f31_0 : fs31[0]?.map (fun f => (f.offset, f.type)) = some (0, 3) := by kernel_rfl
theorem f31_1 : fs31[1]?.map (fun f => (f.offset, f.type)) = some (1, 24) := by kernel_rfl
theorem f31_2 : fs31[2]?.map (fun f => (f.offset, f.type)) = some (3, 29) := by kernel_rfl
set_option maxRecDepth 100000 in
theorem open_act {H : Type} {enc : TypeId × Value → H} {W : World} {base : Nat} {spare : Nat → Bool} {held : Bool} {fuel : Nat} {cs : List Value} {x : DataW H × List MemPlace} (h : DataW.trod enc Try.prog W base spare held fuel 31 cs = some x) :
    ∃ p : Ac, p.ok ∧ cs = enc7 p := by
  obtain ⟨xs, n, _, _, hlen, hxl, hf⟩ := DataW.trod_struct und31 h
  rw [cel31] at hlen
  match cs, hlen with
  | [u0_, u1_, u2_, u3_, u4_, u5_, u6_], _ =>
    obtain ⟨g0, e0, o0, t0⟩ := field_at f31_0
    have k0 := hf 0 g0 e0
    obtain ⟨g1, e1, o1, t1⟩ := field_at f31_1
    have k1 := hf 1 g1 e1
    obtain ⟨g2, e2, o2, t2⟩ := field_at f31_2
    have k2 := hf 2 g2 e2
    have hs : xs.length = 3 := by rw [hxl]; kernel_rfl
    rw [o0, t0, (show Try.prog.cellsOf 3 = 1 by kernel_rfl), List.getElem?_eq_getElem (by omega)] at k0
    obtain ⟨a0, ha0, _, w0⟩ := DataW.trod_int (show Try.prog.underlying 3 = some (.int .i64) by kernel_rfl) k0
    have w0 : a0 ≤ 9223372036854775807 ∧ -9223372036854775808 ≤ a0 := by have h := w0; simp [Lit.wf, IntKind.min, IntKind.max, IntKind.bits, IntKind.signed] at h; omega
    simp at ha0
    rw [o1, t1, cel24, List.getElem?_eq_getElem (by omega)] at k1
    obtain ⟨a1, w1, ha1⟩ := open_st k1
    simp at ha1
    rw [o2, t2, cel29, List.getElem?_eq_getElem (by omega)] at k2
    obtain ⟨a2, w2, ha2⟩ := open_en k2
    simp at ha2
    refine ⟨⟨a0, a1.1, a1.2, a2.1.1, a2.1.2, a2.2.1, a2.2.2⟩, ⟨⟨w0.2, w0.1⟩, w1.1, w1.2, w2.1, w2.2⟩, ?_⟩
    simp [*, enc7]
noncomputable instance : Inhabited Ac := ⟨⟨0, 0, 0, 0, 0, ⟨#[]⟩, false⟩⟩
theorem Try.u22 : Try.prog.underlying 22 = some (.slice 31) := by kernel_rfl
section
variable {H : Type} {enc : TypeId × Value → H} {W : World}
set_option maxRecDepth 100000 in
theorem view_acts {v : Value} {d : DataW H} {ps : List MemPlace} {b0 : Nat} {r : Reach} (hv : Value.okWide Try.prog W r b0 22 v) (h : DataW.Trod enc Try.prog W 0 (fun _ => true) true 22 v d ps) :
    ∃ l, LiesK enc7 7 W v l ∧ ∀ x ∈ l, x.ok := by
  obtain ⟨ao, cap, l, h1, h2, h3, h4, h5, h6⟩ := view_slice Try.u22 cel31 (Nat.succ_pos _) (fun x => x.ok) enc7 (fun h => open_act h) hv h
  exact ⟨l, ⟨ao, cap, h1, h2, h3, h4, h5⟩, h6⟩
set_option maxRecDepth 100000 in
theorem view_act {v : Value} {d : DataW H} {ps : List MemPlace} {b0 : Nat} {r : Reach} (hv : Value.okWide Try.prog W r b0 31 v) (h : DataW.Trod enc Try.prog W 0 (fun _ => true) true 31 v d ps) :
    ∃ x : Ac, v = .agg (enc7 x).toArray ∧ x.ok := by
  obtain ⟨cs, rfl, hsz⟩ := okWide_struct und31 hv
  obtain ⟨fuel, hf⟩ := h
  obtain ⟨p, hp, hcs⟩ := open_act hf
  refine ⟨p, ?_, hp⟩
  have h : cs.toList = enc7 p := hcs
  rw [← h, Array.toArray_toList]
end
end Go.Proofs.Ytegmlekeielmoaa
