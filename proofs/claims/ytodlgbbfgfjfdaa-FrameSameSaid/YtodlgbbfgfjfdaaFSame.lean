/- FrameSame returns true for any two frames, and any number more. No condition. -/
import Derived.Test.YtodlgbbfgfjfdaaFrJ
import Derived.Test.YtodlgbbfgfjfdaaFView
set_option linter.unusedVariables false
namespace Go.Proofs.Ytodlgbbfgfjfdaa
open Go.ChangeShapes Go.WideShapes Go.ChangeAt Go.RowKit

theorem law_all (w : World) (k f t k' f' t' : Int) (v v' : Value) (l m : List Nat) (h1 : Lies w v l) (h2 : Lies w v' m) (hl : Byt l) (hm : Byt m) (x : Nat) (hx : x < 256) :
    Calls Try.prog 6 #[.agg #[.int .i64 k, .int .i64 f, .int .i64 t, v], .agg #[.int .i64 k', .int .i64 f', .int .i64 t', v'], .int .u8 (x : Int)] w fun e w' => e = .returned (.bool true) ∧ Below w.heap.size w w' := by
  by_cases h : 500 < l.length ∨ 500 < m.length
  · obtain ⟨a1, p1, rfl, _⟩ := h1
    obtain ⟨a2, p2, rfl, _⟩ := h2
    exact law_big w k f t k' f' t' a1 a2 _ _ p1 p2 x h
  · exact law_small w k f t k' f' t' v v' l m h1 h2 hl hm x hx (by omega) (by omega)

set_option maxRecDepth 100000 in
theorem same_lifted (os : Os) (started : os.Started) (H : Type) (enc : TypeId × Value → H) :
    ReturnsInHanded {} Try.checked os 6 .any (Rows.frameSameSpec.pre6 enc Try.prog Try.f6 Rows.frameSameRow.domain false) (Rows.frameSameSpec.post enc Try.prog Try.f6 false true false false) := by
  refine returnsInHanded_of_change (C := Try.checked) Try.own started (by kernel_rfl) Try.func6
    (ChangeSpec.witness6 (enc := enc) (C := Try.checked) false ⟨#[], #[.agg #[.int .i64 0, .int .i64 0, .int .i64 0, .slice none 0 0], .agg #[.int .i64 0, .int .i64 0, .int .i64 0, .slice none 0 0], .int .u8 0], []⟩ 8 (by kernel_rfl) (by kernel_rfl) (by kernel_rfl) (by kernel_rfl)) ?_
  intro W base args ds gs before hval0 hW hcnd _
  have hval : ∀ (j : Nat) t v, Try.f6.params[j]? = some t → args[j]? = some v → Value.okWide Try.prog W .any base t v := hval0
  have hW' := hW
  obtain ⟨p, q, hA0, hV, rfl, hfz, hnd⟩ := hW
  have hA : DataW.TrodAll enc Try.prog W 0 (fun _ => true) true Try.f6.params.toList args.toList ds p := hA0
  rw [Try.params6] at hA hval
  obtain ⟨v0, v1, v2, d0, d1, d2, p0, p1, p2, rfl, rfl, rfl, h0, h1, h2⟩ := trodAll_three hA
  obtain ⟨rfl, rfl⟩ := trodVars_none hV
  clear hA0 hval0
  simp only [List.append_nil] at hW'
  have hlt : ∀ x ∈ p0 ++ (p1 ++ p2), x.block < W.heap.size := fun x hx => by simpa using hW'.lt x (by simpa using hx)
  obtain ⟨k, f, t, u, l, rfl, a0, b0⟩ := view_frame (hval 0 24 v0 rfl rfl) h0
  obtain ⟨k', f', t', u', m, rfl, a1, b1⟩ := view_frame (hval 1 24 v1 rfl rfl) h1
  obtain ⟨n, rfl, _, _, wn⟩ := open_int Try.underlying5 (hval 2 5 v2 rfl rfl) h2
  have hw := wn
  simp [Lit.wf, IntKind.min, IntKind.max, IntKind.bits, IntKind.signed] at hw
  obtain ⟨x, rfl⟩ : ∃ x : Nat, n = (x : Int) := ⟨n.toNat, by omega⟩
  refine (law_all W k f t k' f' t' u u' l m a0 a1 b0 b1 x (by omega)).mono fun e W' ⟨he, hb⟩ => ?_
  subst he
  have k0 := Below.trod Try.laidOut (by kernel_rfl) (of_decide_eq_true (by kernel_rfl)) h0 hb (fun x hx => hlt x (by simp [hx]))
  have k1 := Below.trod Try.laidOut (by kernel_rfl) (of_decide_eq_true (by kernel_rfl)) h1 hb (fun x hx => hlt x (by simp [hx]))
  have k2 := Below.trod Try.laidOut (by kernel_rfl) (of_decide_eq_true (by kernel_rfl)) h2 hb (fun x hx => hlt x (by simp [hx]))
  exact ⟨_, rfl, post_read hW' hb (trodAll_mk3 k0 k1 k2) rfl (trodAll_mk1 (shut_bool Try.underlying4 _))⟩

theorem frameSame_holds : Rows.FrameSameSaid :=
  OpenClaim.holds_of_wide 6 Try.f6 rfl rfl rfl rfl rfl rfl rfl ⟨rfl, rfl, rfl, rfl, rfl⟩ rfl rfl rfl rfl rfl (by kernel_rfl) Try.func6 (by kernel_rfl)
    (of_decide_eq_true (by kernel_rfl)) (by unfold Func.isWrapper; rw [if_neg (by decide +kernel)]; exact ⟨rfl, rfl⟩)
    (fun os started H enc _ => same_lifted os started H enc)
end Go.Proofs.Ytodlgbbfgfjfdaa
