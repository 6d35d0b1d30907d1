/- The row's last step for arguments that lead to no memory: what was there when the call began is as it was, by 'Below'. -/
import Derived.Test.YtpklcddfoegogaaRows
import Derived.ProofKit
import Derived.Below
import Derived.ChangeSame
set_option linter.unusedVariables false
namespace Go.Proofs.Ytpklcddfoegogaa
open Go.ChangeShapes Go.WideShapes Go.ChangeAt Go.RowKit
section
variable {H : Type} {enc : TypeId × Value → H} {P : Program}
/-- Arguments without places, a law without variables: the call's own blocks are all that is new. -/
theorem post_placeless {f : Func} {s : ChangeSpec} {fresh handsOn again : Bool} {W W' : World} {args : Array Value} {v : Value} {ds gs : List (DataW H)}
    (hW : DataW.Whole enc P f.params.toList s.vars false W args.toList ds gs []) (hb : Below W.heap.size W W')
    (ha : ∀ sp : Nat → Bool, DataW.TrodAll enc P W' 0 sp true f.params.toList args.toList (s.fn H (ds ++ gs)).args [])
    (hg : ∀ sp : Nat → Bool, DataW.TrodVars enc P W' sp s.vars (s.fn H (ds ++ gs)).vars [])
    (hr : ∀ (b : Nat) (sp : Nat → Bool) (hd : Bool), DataW.TrodAll enc P W' b sp hd f.resultTypes.toList (v.resultList f.resultTypes.size) (s.fn H (ds ++ gs)).results [])
    (hok : ∀ (j : Nat) (t : TypeId) (r : Value), f.resultTypes[j]? = some t → (v.resultList f.resultTypes.size)[j]? = some r → Value.okWide P W' .any 0 t r) :
    s.post enc P f false fresh handsOn again W args v W' := by
  have kept : W.keptBut W' (fun p => p ∈ ([] : List MemPlace) ∧ p ∉ ([] : List MemPlace)) := hb.frame _
  refine ⟨ds, gs, [], [], [], [], hW, hr _ _ _, ha _, hg _, World.keptBut_mono (fun p hp => absurd hp.1 (by simp)) kept, fun _ => ?_⟩
  have whole := trodAll_append (ha fun _ => true) (hr 0 (fun _ => true) true)
  exact ⟨hok, _, _, [], ⟨[], [], whole, hg _, rfl, fun b off hp => absurd hp (by simp), fun ha' => (by cases ha')⟩, fun p hp => absurd hp (by simp)⟩
end
theorem Try.own : ownKnob Try.prog.godebug = none := by kernel_rfl
end Go.Proofs.Ytpklcddfoegogaa
