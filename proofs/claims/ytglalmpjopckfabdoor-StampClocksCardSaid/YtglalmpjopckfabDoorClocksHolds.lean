/- StampClocks returns true for every replica, every times and every ticks: what a clock answers; what it ticks is behind all that it saw, and ticked. The row lists three tables of the library with what they hold; the card ties them to the program's text (the pruned copy that the seat's roots load). -/
import Derived.Test.YtglalmpjopckfabDoorClocks
import Derived.Test.YtglalmpjopckfabDoorCard
import Derived.Deep.Slices
set_option linter.unusedVariables false
namespace Go.Proofs.YtglalmpjopckfabDoor
open Go.ChangeShapes Go.WideShapes Go.ChangeAt Go.RowKit Go.Deep

theorem list_of {α : Type} {f : α → Value} : ∀ (vs : List Value), (∀ v ∈ vs, ∃ a, v = f a) → ∃ l : List α, vs = l.map f
  | [], _ => ⟨[], rfl⟩
  | v :: vs, h => by
    obtain ⟨a, ha⟩ := h v (List.mem_cons_self ..)
    obtain ⟨l, hl⟩ := list_of vs (fun u hu => h u (List.mem_cons_of_mem _ hu))
    exact ⟨a :: l, by rw [ha, hl]; rfl⟩

section
variable {H : Type} {enc : TypeId × Value → H}
theorem view_cells {W : World} {v : Value} {d : DataW H} {ps : List MemPlace} {b0 : Nat} {r : Reach} {t e : TypeId} (ht : Tryd.prog.underlying t = some (.slice e)) (hc : Tryd.prog.cellsOf e = 1)
    (hv : Value.okWide Tryd.prog W r b0 t v) (h : DataW.Trod enc Tryd.prog W 0 (fun _ => true) true t v d ps) :
    ∃ ao cap vs, v = .slice ao vs.length cap ∧ vs.length ≤ 9223372036854775807 ∧ At W ao vs ∧ ∀ u ∈ vs, ∃ n x, DataW.trod enc Tryd.prog W 0 (fun _ => true) true n e [u] = some x := by
  obtain ⟨a0, len, cap, rfl⟩ := okWide_slice ht hv
  obtain ⟨fuel, hf⟩ := h
  rcases open_slice1 ht hc hf with ⟨hcs, hx⟩ | ⟨a, len', cap', m, n, V, D, Pl, hcs, _, hl, hm, hmm, hx, hel⟩
  · simp [Value.cells] at hcs
    obtain ⟨rfl, rfl, rfl⟩ := hcs
    exact ⟨none, 0, [], rfl, by simp, (fun j u hj => by simp at hj), (fun u hu => by cases hu)⟩
  · simp [Value.cells] at hcs
    obtain ⟨rfl, rfl, rfl⟩ := hcs
    simp only [if_true] at hmm
    subst hmm
    unfold maxLen at hm
    have hlen : ((List.range len).map V).length = len := by simp
    refine ⟨some a, _, (List.range len).map V, by rw [hlen], by rw [hlen]; omega, fun j u hj => ?_, fun u hu => ?_⟩
    · have hj2 : j < len := by
        have := (List.getElem?_eq_some_iff.1 hj).1
        rwa [hlen] at this
      have hV : V j = u := by simpa [hj2] using hj
      exact ⟨a, rfl, hV ▸ (hel j (by omega)).1⟩
    · obtain ⟨i, hi, rfl⟩ := List.mem_map.1 hu
      exact ⟨_, _, (hel i (by have := List.mem_range.1 hi; omega)).2⟩
end

theorem clocks_all (w : World) (rep : Int) (a1 a2 : Option Addr) (c1 c2 : Nat) (l : List Int) (ts : List Bool) (hl : l.length ≤ 9223372036854775807) (ht : ts.length ≤ 9223372036854775807)
    (h1 : At w a1 (l.map (Value.int .i64))) (h2 : At w a2 (ts.map Value.bool)) :
    Calls Tryd.prog 6 #[.int .i64 rep, .slice a1 l.length c1, .slice a2 ts.length c2] w fun e w' => e = .returned (.bool true) ∧ Below w.heap.size w w' := by
  cases h : rR rep
  · exact clocks_no w rep _ _ h
  · exact clocks_yes w rep a1 a2 c1 c2 l ts h hl ht h1 h2

theorem cells3 : Tryd.prog.cellsOf 3 = 1 := by kernel_rfl
theorem cells4 : Tryd.prog.cellsOf 4 = 1 := by kernel_rfl

set_option maxRecDepth 100000 in
theorem clocks_lifted (os : Os) (started : os.Started) (H : Type) (enc : TypeId × Value → H) :
    ReturnsInHanded {} Tryd.checked os 6 .any (fun w args => (Rows.stampClocksSpec.pre enc Tryd.prog Tryd.f6 [] false w args ∧ laidMetH Tryd.prog laid3 w) ∧ sizedMet enc Tryd.prog Tryd.f6 (OpenSpec.ofChange Rows.stampClocksSpec) false w args)
      (Rows.stampClocksSpec.post enc Tryd.prog Tryd.f6 false true false false) := by
  refine returnsInHanded_of_change_and (C := Tryd.checked) (X := fun w _ => laidMetH Tryd.prog laid3 w) (fun _ _ _ hh h => h.of_heap hh) Tryd.own started (by kernel_rfl) Tryd.func6
    (ChangeSpec.witness_shaped (enc := enc) (C := Tryd.checked) (os := os) (X := fun w _ => laidMetH Tryd.prog laid3 w) false (World.doorLaid Tryd.prog 400 os) #[.int .i64 0, .slice none 0 0, .slice none 0 0] 8 rfl (World.shaped_of_RefB (by kernel_rfl) (by kernel_rfl)) (by kernel_rfl) (by kernel_rfl) (by kernel_rfl) (door_met os _)) ?_
  intro W base args ds gs before hval0 hW _ _ hL _
  have hval : ∀ (j : Nat) t v, Tryd.f6.params[j]? = some t → args[j]? = some v → Value.okWide Tryd.prog W .any base t v := hval0
  have hW' := hW
  obtain ⟨p, q, hA0, hV, rfl, hfz, hnd⟩ := hW
  have hA : DataW.TrodAll enc Tryd.prog W 0 (fun _ => true) true Tryd.f6.params.toList args.toList ds p := hA0
  rw [Tryd.params6] at hA hval
  obtain ⟨v0, v1, v2, d0, d1, d2, p0, p1, p2, rfl, rfl, rfl, h0, h1, h2⟩ := trodAll_three hA
  obtain ⟨rfl, rfl⟩ := trodVars_none hV
  obtain ⟨m, rfl, rfl, rfl, wm⟩ := open_int Tryd.underlying3 (hval 0 3 v0 rfl rfl) h0
  clear hA0
  simp only [List.append_nil] at hW'
  have hlt : ∀ x ∈ [] ++ p1 ++ p2, x.block < W.heap.size := fun x hx => by simpa using hW'.lt x hx
  obtain ⟨a1, c1, vs1, e1, n1, at1, el1⟩ := view_cells Tryd.underlying41 cells3 (hval 1 41 v1 rfl rfl) h1
  obtain ⟨a2, c2, vs2, e2, n2, at2, el2⟩ := view_cells Tryd.underlying42 cells4 (hval 2 42 v2 rfl rfl) h2
  obtain ⟨l, rfl⟩ := list_of (f := Value.int .i64) vs1 (fun u hu => by
    obtain ⟨n, x, hx⟩ := el1 u hu
    obtain ⟨k, hk, _, _⟩ := DataW.trod_int Tryd.underlying3 hx
    exact ⟨k, by simpa using hk⟩)
  obtain ⟨ts, rfl⟩ := list_of (f := Value.bool) vs2 (fun u hu => by
    obtain ⟨n, x, hx⟩ := el2 u hu
    obtain ⟨k, hk, _⟩ := DataW.trod_bool Tryd.underlying4 hx
    exact ⟨k, by simpa using hk⟩)
  rw [List.length_map] at e1 n1 e2 n2
  have hC := clocks_all W m a1 a2 c1 c2 l ts n1 n2 at1 at2
  rw [← e1, ← e2] at hC
  refine hC.mono fun e W' ⟨he, hb⟩ => ?_
  subst he
  have k1 := Below.trod Tryd.laidOut (by kernel_rfl) (of_decide_eq_true (by kernel_rfl)) h1 hb (fun x hx => hlt x (by simp [hx]))
  have k2 := Below.trod Tryd.laidOut (by kernel_rfl) (of_decide_eq_true (by kernel_rfl)) h2 hb (fun x hx => hlt x (by simp [hx]))
  exact ⟨_, rfl, post_read hW' hb (trodAll_mk3 (shut_int Tryd.underlying3 wm) k1 k2) rfl (trodAll_mk1 (shut_bool Tryd.underlying4 _))⟩

theorem stampClocks_row : Rows.StampClocksSaid :=
  OpenClaim.holds_of_wide 6 Tryd.f6 rfl rfl rfl rfl rfl rfl rfl ⟨rfl, rfl, rfl, rfl, rfl⟩ rfl rfl rfl rfl rfl (by kernel_rfl) Tryd.func6 (by kernel_rfl)
    (of_decide_eq_true (by kernel_rfl)) (by unfold Func.isWrapper; first | (rw [if_pos (by decide +kernel)]; kernel_rfl) | (rw [if_neg (by decide +kernel)]; exact ⟨rfl, rfl⟩))
    (fun os started H enc _ => clocks_lifted os started H enc)

theorem stampClocks_card : Rows.StampClocksCardSaid :=
  Claim7.holds_tied_plain_at .later [] [.data, .data, .data] true (true, "6dd8b9d491318ba5a56bd8512d87a2e3034b6055b68d60c42b7f55264e741377") false
    stampClocks_row (fun _ h => by cases h) (by kernel_rfl) (fun _ h => by cases h) stampClocks_row_tie rfl ⟨rfl, rfl⟩ (by kernel_rfl) rfl
    (fun f fn hf hfn => by
      obtain rfl : f = 6 := Option.some.inj ((show Tryd.prog.funcNamed "banyan/banyanlaw03.StampClocks" = some 6 by kernel_rfl).symm.trans hf) |>.symm
      obtain rfl : fn = Tryd.f6 := (Option.some.inj (Tryd.func6.symm.trans hfn)).symm
      exact ⟨by kernel_rfl, fun j t ht => by
        rw [Tryd.params6] at ht
        have hm : t ∈ [3, 41, 42] := by simpa using Array.mem_of_getElem? ht
        have hall : ([3, 41, 42].all fun u => !Tryd.prog.wantsStandIn u) = true := by kernel_rfl
        exact (show Tryd.prog.wantsStandIn t = false by simpa using List.all_eq_true.1 hall t hm)⟩)
    (by kernel_rfl)
end Go.Proofs.YtglalmpjopckfabDoor
