/- slices.SortStableFunc at an own row of ops; slices.Clone; op.Sorted. Made by genqf7.py. -/
import Derived.Test.YtgnnpfainoppeaaDoorQF
set_option linter.unusedVariables false
set_option linter.unusedSimpArgs false
set_option maxRecDepth 100000
namespace Go.Proofs.YtgnnpfainoppeaaDoor
open Go.Shelf Go.RowKit Go.Lib Go.Sort

theorem own_empty (w : World) (B : Nat) (e : TypeId) (k : Nat) (hB : B ≤ w.heap.size) : (w.alloc (.cells #[] e)).ownsRow B e k (.slice (some ⟨w.heap.size, 0, none⟩) 0 0) 0 [] :=
  ⟨by simp, .inr ⟨w.heap.size, 0, #[], rfl, hB, heap_alloc_new w _, Nat.le_refl _, Nat.zero_le _, by simp, by simp⟩⟩
set_option maxHeartbeats 1600000 in
theorem clone_ops (w : World) (v : Value) (l : List O) (h : OLies w v l) (hl : l.length ≤ 1000) :
    Calls Tryd.prog 40 #[v] w fun e w' => ∃ r, e = .returned r ∧ w'.ownsRow w.heap.size 40 9 r l.length (cs9 l) ∧ Below w.heap.size w w' := by
  obtain ⟨i0, hi, hz0, hz1, hz2⟩ := info_parts info25
  have H := Lib.hid h
  obtain ⟨ao, cap, rfl, hn, hmx, h0, hc⟩ := h
  clear hc
  cases ao with
  | none =>
    obtain ⟨rfl, rfl⟩ := h0 rfl
    have kc := fun W => Lib.run_eql_slice_nil (P := Tryd.prog) W 34 40 none 0 0 0 0 Tryd.u27
    go_enter Tryd.func40, Tryd.ntmps40
    go_wp2
    go_returns
    exact ⟨_, rfl, World.ownsRow_nil _ _ _ _, Below.refl _ _⟩
  | some b =>
    clear h0
    have kc := fun W => Lib.run_eql_slice_nil (P := Tryd.prog) W 34 40 (some b) l.length cap 0 0 Tryd.u27
    go_enter Tryd.func40, Tryd.ntmps40
    have hX := vstep w (.cells #[] 40)
    have HL := Lib.hid ((H.out.step hX).src)
    clear hX
    go_wp2_with (at_builtin; refine Wi.wpList_append_src_own rfl (.tmp 5) (.tmp 6) 34 34 rfl w.heap.size 40 i0 (oV O0) 9 80 Tryd.u27 hi hz0 hz1 hz2 rfl (by decide) _ 0 [] rfl (own_empty w _ 40 9 (Nat.le_refl _)) _ l.length (cs9 l) rfl HL.out (by unfold maxLen; omega) (by omega) (by simp) ?_; intro v1 w1 hown hgr hsp)
    go_returns
    rw [Nat.zero_add, List.nil_append] at hown
    exact ⟨_, rfl, hown, ((Below.refl w.heap.size w).alloc (Nat.le_refl _) (.cells #[] 40)).grown hgr (by simp) (fun k hk => by simp [Act.eval, Value.ownBlock] at hk; omega)⟩
end Go.Proofs.YtgnnpfainoppeaaDoor

