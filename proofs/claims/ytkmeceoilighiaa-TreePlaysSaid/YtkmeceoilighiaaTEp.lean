/- The ends of TreePlays' row: acts, opened. -/
import Derived.Test.YtkmeceoilighiaaTEn
import Derived.Test.YtkmeceoilighiaaQW
import Derived.ProofKit
import Derived.LaidMore
import Derived.OpenShut
import Derived.Stop.Joined
import Derived.SevenTiedAt
import Derived.Carry
import Derived.Lib.SmallJoins
import Derived.Deep.Slices
import Derived.Shelf.Vars
import Derived.Lay
set_option linter.unusedVariables false
namespace Go.Proofs.Ytkmeceoilighiaa
open Tb (LiesK)
open Go.ChangeShapes Go.WideShapes Go.ChangeAt Go.RowKit Go.Joins Go.Deep

noncomputable def fs36 : Array Field := match Try.prog.underlying 36 with | some (.struct f) => f | _ => #[]
theorem und36 : Try.prog.underlying 36 = some (.struct fs36) := by kernel_rfl
theorem cel36 : Try.prog.cellsOf 36 = 10 := by kernel_rfl
theorem f36_0 : fs36[0]?.map (fun f => (f.offset, f.type)) = some (0, 3) := by kernel_rfl
theorem f36_1 : fs36[1]?.map (fun f => (f.offset, f.type)) = some (1, 34) := by kernel_rfl
set_option maxRecDepth 100000 in
theorem open_act {H : Type} {enc : TypeId × Value → H} {W : World} {base : Nat} {spare : Nat → Bool} {held : Bool} {fuel : Nat} {cs : List Value} {x : DataW H × List MemPlace} (h : DataW.trod enc Try.prog W base spare held fuel 36 cs = some x) :
    ∃ p : Int × O, OkV p.2 ∧ cs = encA p := by
  obtain ⟨xs, n, _, _, hlen, hxl, hf⟩ := DataW.trod_struct und36 h
  rw [cel36] at hlen
  match cs, hlen with
  | [u0_, u1_, u2_, u3_, u4_, u5_, u6_, u7_, u8_, u9_], _ =>
    obtain ⟨g0, e0, o0, t0⟩ := field_at f36_0
    have k0 := hf 0 g0 e0
    obtain ⟨g1, e1, o1, t1⟩ := field_at f36_1
    have k1 := hf 1 g1 e1
    have hs : xs.length = 2 := by rw [hxl]; kernel_rfl
    rw [o0, t0, (show Try.prog.cellsOf 3 = 1 by kernel_rfl), List.getElem?_eq_getElem (by omega)] at k0
    obtain ⟨a0, ha0, _, w0⟩ := DataW.trod_int (show Try.prog.underlying 3 = some (.int .i64) by kernel_rfl) k0
    have w0 : a0 ≤ 9223372036854775807 ∧ -9223372036854775808 ≤ a0 := by have h := w0; simp [Lit.wf, IntKind.min, IntKind.max, IntKind.bits, IntKind.signed] at h; omega
    simp at ha0
    rw [o1, t1, cel34, List.getElem?_eq_getElem (by omega)] at k1
    obtain ⟨a1, w1, ha1⟩ := open_op k1
    simp at ha1
    refine ⟨(a0, a1), w1, ?_⟩
    simp [*, encA, oc, oCells]
noncomputable instance instInhAct : Inhabited (Int × O) := ⟨(0, O0)⟩
section
variable {H : Type} {enc : TypeId × Value → H} {W : World}
set_option maxRecDepth 100000 in
theorem view_acts {v : Value} {d : DataW H} {ps : List MemPlace} {b0 : Nat} {r : Go.Reach} (hv : Value.okWide Try.prog W r b0 22 v) (h : DataW.Trod enc Try.prog W 0 (fun _ => true) true 22 v d ps) :
    ∃ l : List (Int × O), LiesK encA 10 W v l ∧ ∀ x ∈ l, OkV x.2 := by
  obtain ⟨ao, cap, l, h1, h2, h3, h4, h5, h6⟩ := view_slice (show Try.prog.underlying 22 = some (.slice 36) by kernel_rfl) (show Try.prog.cellsOf 36 = 10 by kernel_rfl) (Nat.succ_pos _) (fun (x : Int × O) => OkV x.2) encA (fun h => open_act h) hv h
  exact ⟨l, ⟨ao, cap, h1, h2, h3, h4, h5⟩, h6⟩
end
end Go.Proofs.Ytkmeceoilighiaa
