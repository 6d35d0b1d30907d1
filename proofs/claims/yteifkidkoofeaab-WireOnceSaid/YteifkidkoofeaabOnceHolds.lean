/- WireOnce returns true for every bytes and kinds: what was read of any bytes is written as just those with which they begin. No condition. -/
import Derived.Test.YteifkidkoofeaabOnce
import Derived.Test.YteifkidkoofeaabView
set_option linter.unusedVariables false
namespace Go.Proofs.Yteifkidkoofeaab
open Go.ChangeShapes Go.WideShapes Go.ChangeAt Go.RowKit

theorem once_all (w : World) (v0 v1 : Value) (l0 l1 : List Int) (h0 : Lies w v0 l0) (b0 : Byt l0) (n0 : l0.length ≤ 9223372036854775807) (h1 : Lies w v1 l1) (b1 : Byt l1) (n1 : l1.length ≤ 9223372036854775807) :
    Calls Try.prog 5 #[v0, v1] w fun e w' => e = .returned (.bool true) ∧ Below w.heap.size w w' := by
  by_cases h : l0.length ≤ 400
  · obtain ⟨ao, cap, rfl, hcap, hn, hc⟩ := h1
    exact once_near w v0 l0 ao cap l1 h0 b0 h n1 (fun b hb j x hj => hc b hb j _ (by simp [u8s, hj])) (fun e => (hn e).1) b1
  · obtain ⟨ao, cap, rfl, _⟩ := h0
    exact once_far w ao l0.length cap v1 (by omega) n0

set_option maxRecDepth 100000 in
theorem once_lifted (os : Os) (started : os.Started) (H : Type) (enc : TypeId × Value → H) :
    ReturnsInHanded {} Try.checked os 5 .any (Rows.wireOnceSpec.pre6 enc Try.prog Try.f5 Rows.wireOnceRow.domain false) (Rows.wireOnceSpec.post enc Try.prog Try.f5 false true false false) := by
  refine returnsInHanded_of_change (C := Try.checked) Try.own started (by kernel_rfl) Try.func5
    (ChangeSpec.witness6 (enc := enc) (C := Try.checked) false ⟨#[], #[.slice none 0 0, .slice none 0 0], []⟩ 8 (by kernel_rfl) (by kernel_rfl) (by kernel_rfl) (by kernel_rfl)) ?_
  intro W base args ds gs before hval0 hW hcnd _
  have hval : ∀ (j : Nat) t v, Try.f5.params[j]? = some t → args[j]? = some v → Value.okWide Try.prog W .any base t v := hval0
  have hW' := hW
  obtain ⟨p, q, hA0, hV, rfl, hfz, hnd⟩ := hW
  have hA : DataW.TrodAll enc Try.prog W 0 (fun _ => true) true Try.f5.params.toList args.toList ds p := hA0
  rw [Try.params5] at hA hval
  obtain ⟨v0, v1, d0, d1, p0, p1, rfl, rfl, rfl, h0, h1⟩ := trodAll_two hA
  obtain ⟨rfl, rfl⟩ := trodVars_none hV
  clear hA0 hval0
  simp only [List.append_nil] at hW'
  have hlt : ∀ x ∈ p0 ++ p1, x.block < W.heap.size := fun x hx => by simpa using hW'.lt x hx
  obtain ⟨l0, a0, b0, c0⟩ := view_bytes (hval 0 24 v0 rfl rfl) h0
  obtain ⟨l1, a1, b1, c1⟩ := view_bytes (hval 1 24 v1 rfl rfl) h1
  refine (once_all W v0 v1 l0 l1 a0 b0 c0 a1 b1 c1).mono fun e W' ⟨he, hb⟩ => ?_
  subst he
  have k0 := Below.trod Try.laidOut (by kernel_rfl) (of_decide_eq_true (by kernel_rfl)) h0 hb (fun x hx => hlt x (by simp [hx]))
  have k1 := Below.trod Try.laidOut (by kernel_rfl) (of_decide_eq_true (by kernel_rfl)) h1 hb (fun x hx => hlt x (by simp [hx]))
  exact ⟨_, rfl, post_read hW' hb (trodAll_mk2 k0 k1) rfl (trodAll_mk1 (shut_bool Try.underlying4 _))⟩

theorem wireOnce_holds : Rows.WireOnceSaid :=
  OpenClaim.holds_of_wide 5 Try.f5 rfl rfl rfl rfl rfl rfl rfl ⟨rfl, rfl, rfl, rfl, rfl⟩ rfl rfl rfl rfl rfl (by kernel_rfl) Try.func5 (by kernel_rfl)
    (of_decide_eq_true (by kernel_rfl)) (by unfold Func.isWrapper; rw [if_neg (by decide +kernel)]; exact ⟨rfl, rfl⟩)
    (fun os started H enc _ => once_lifted os started H enc)
end Go.Proofs.Yteifkidkoofeaab
