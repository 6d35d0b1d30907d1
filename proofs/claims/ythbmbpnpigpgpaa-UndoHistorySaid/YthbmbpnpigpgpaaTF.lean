/- Stamps, sorted. -/
import Derived.Test.YthbmbpnpigpgpaaTE
import Derived.Test.YthbmbpnpigpgpaaShelf
import Derived.Test.YthbmbpnpigpgpaaSrtK
import Derived.Shelf.SlSortCmp.NoneTotal
set_option linter.unusedVariables false
set_option maxRecDepth 100000
namespace Go.Proofs.Ythbmbpnpigpgpaa
open Go.RowKit Go.Sort Go.Shelf

abbrev Sp := Int × Int
def encS (x : Sp) : List Value := [.int .i64 x.1, .int .i64 x.2]
def cmpS (x y : Sp) : Int := if x.1 = y.1 then Lib.compareInt x.2 y.2 else Lib.compareInt x.1 y.1
set_option maxHeartbeats 1000000 in
theorem compare_exact (x y : Sp) (W : World) : Calls Try.prog 54 #[.agg #[.int .i64 x.1, .int .i64 x.2], .agg #[.int .i64 y.1, .int .i64 y.2]] W fun e w' => e = .returned (.int .i64 (cmpS x y)) ∧ ∃ q os', w' = grow (W.drewN q) os' := by
  have hcon := fun a b W' => Try.cmp_Compare_int a b W'
  obtain ⟨x1, x2⟩ := x
  obtain ⟨y1, y2⟩ := y
  unfold cmpS
  dsimp only
  by_cases h : x1 = y1
  · rw [if_pos h]
    have t1 : (x1 != y1) = false := by simp [h]
    clear h
    go_enter Try.func54, Try.ntmps54
    go_wp2_with (go_at_call 61; refine (hcon _ _ _).mono ?_; rintro e w' ⟨rfl, rfl⟩)
    go_returns
    exact ⟨rfl, 0, _, by rw [alloc_eq_grow, alloc_eq_grow, grow_grow]; rfl⟩
  · rw [if_neg h]
    have t1 : (x1 != y1) = true := by simp [h]
    clear h
    go_enter Try.func54, Try.ntmps54
    go_wp2_with (go_at_call 61; refine (hcon _ _ _).mono ?_; rintro e w' ⟨rfl, rfl⟩)
    go_returns
    exact ⟨rfl, 0, _, by rw [alloc_eq_grow, alloc_eq_grow, grow_grow]; rfl⟩
theorem lt_cmp (x y : Sp) : ltOf cmpS x y = ltS x.1 x.2 y.1 y.2 := by
  unfold ltOf cmpS ltS Lib.compareInt
  by_cases h : x.1 = y.1
  · simp only [h, if_true]
    by_cases a : x.2 < y.2
    · simp [a]
    · by_cases b : y.2 < x.2 <;> simp [a, b]
  · simp only [h, if_false]
    by_cases a : x.1 < y.1
    · simp [a]
    · by_cases b : y.1 < x.1 <;> simp [a, b]
theorem swoS : SWO (ltOf cmpS) where
  irrefl x := by rw [lt_cmp]; unfold ltS; simp
  trans x y z h1 h2 := by
    rw [lt_cmp] at *
    unfold ltS at *
    split at h1 <;> split at h2 <;> split <;> simp at * <;> omega
  ntrans x y z h1 h2 := by
    rw [lt_cmp] at *
    unfold ltS at *
    split at h1 <;> split at h2 <;> split <;> simp at * <;> omega
theorem encS_len (x : Sp) : (encS x).length = 2 := rfl
theorem encS_one (x : Sp) : ∀ v ∈ encS x, v.oneCell' = true := by
  intro v hv
  simp [encS] at hv
  rcases hv with rfl | rfl <;> rfl
theorem sort_own (w : World) (B : Nat) (v : Value) (l : List Sp) (h : w.ownsRow B 61 2 v l.length (l.flatMap encS)) (hl : l.length < 1000000) :
    Calls Try.prog 59 #[v, .func (.func 54) #[] #[]] w fun e w' => e = .returned (.tuple #[]) ∧ ∃ l' : List Sp, l'.Perm l ∧ l'.Pairwise (fun x y => ltS y.1 y.2 x.1 x.2 = false) ∧ w'.ownsRow B 61 2 v l.length (l'.flatMap encS) ∧ w.grownBy w' v.ownBlock := by
  rcases h.2 with ⟨rfl, h0⟩ | ⟨g, cap, cur, rfl, hB, hb, h1, h2, h3, h4⟩
  · have hn : l = [] := List.eq_nil_of_length_eq_zero h0
    subst hn
    refine (AnyF.slices_SortFunc_none Try.sortSt none 0 (.func (.func 54) #[] #[]) w).mono ?_
    rintro e w' ⟨rfl, rfl⟩
    exact ⟨rfl, [], .refl _, List.Pairwise.nil, h, World.grownBy.mk rfl rfl rfl (Nat.le_refl _) (fun _ _ _ => rfl)⟩
  · have eg : ∀ args w, (callFunc 54 args).run Try.prog w = .ok (.enter 54 args) w := enters_of Try.func54 (by kernel_rfl) rfl
    have hg : g < w.heap.size := lt_of_block hb
    have hH := holdsK_block (enc := encS) encS_len (by omega) hb h4
    have hcon := AnyQ.slices_SortFunc Try.sortSt 2 Try.isAgg61 Try.sizeOf61 encS encS_len encS_one cmpS swoS 54 #[] g 0 cap l.toArray w eg (fun _ _ _ _ x y => compare_exact x y _) hH hg (by simp; omega)
    rw [show l.toArray.size = l.length from by simp] at hcon
    refine hcon.mono ?_
    rintro e w' ⟨rfl, d', n, os, hp, hs, rfl⟩
    obtain ⟨l', rfl⟩ : ∃ l' : List Sp, d' = l'.toArray := ⟨d'.toList, by simp⟩
    have hlen : l'.length = l.length := by have := hp.1; simpa using this
    have hperm : l'.Perm l := by
      have := hp.2.2
      rw [Array.toList_extract, Array.toList_extract] at this
      simp [List.extract_eq_take_drop, ← hlen] at this
      rwa [List.take_of_length_le (by omega)] at this
    refine ⟨rfl, l', hperm, ?_, ⟨by rw [flat_len encS_len, hlen], .inr ⟨g, cap, _, rfl, hB, heapK l'.toArray hb, h1, h2, by simp [putCells, h3], by rw [← hlen]; exact takeK encS_len (by omega) cur l' (by rw [h3, hlen]; exact Nat.mul_le_mul_right 2 h1)⟩⟩, grownK _⟩
    rw [List.pairwise_iff_getElem]
    intro i j hi hj hij
    have := hs i j (Nat.zero_le _) hij (by omega)
    rw [lt_cmp] at this
    simpa [hi, hj] using this
end Go.Proofs.Ythbmbpnpigpgpaa

