/- Groups of items, plain: what both ways of making them come to. -/
import Derived.Test.YthbliaohaakbiaaGS
set_option linter.unusedVariables false
set_option linter.unusedSimpArgs false
set_option maxRecDepth 100000
namespace Go.Proofs.Ythbliaohaakbiaa
open Go.RowKit Go.Sort

theorem snoc_rec {α : Type} {P : List α → Prop} (nil : P []) (snoc : ∀ l x, P l → P (l ++ [x])) (l : List α) : P l := by
  have h : ∀ m : List α, P m.reverse := fun m => by
    induction m with
    | nil => exact nil
    | cons x r ih => rw [List.reverse_cons]; exact snoc _ _ ih
  have := h l.reverse
  rwa [List.reverse_reverse] at this
structure Gp where
  n : ByteArray
  d : Bool
  l : List Sp
def Gp.key (g : Gp) : ByteArray × List Sp := (g.n, g.l)
theorem Gp.ext' {a b : Gp} (h1 : a.n = b.n) (h2 : a.d = b.d) (h3 : a.l = b.l) : a = b := by cases a; cases b; simp_all
def isD (x : It) (n : ByteArray) : Bool := x.d && decide (x.n = n)
def mates (l : List It) (n : ByteArray) : List Sp := (l.filter (fun y => isD y n)).map ndI
/-- The items have unlike nodes. -/
def Unlike (l : List It) : Prop := (l.map ndI).Nodup
/-- The group of an item, its nodes sorted by f. -/
def grpBy (f : List Sp → List Sp) (l : List It) (x : It) : Gp := ⟨x.n, x.d, if x.d then f (mates l x.n) else [ndI x]⟩
/-! ### the program's way, over items that rise -/
def gput (gs : List Gp) (x : It) : List Gp :=
  if x.d && gs.any (fun g => g.d && decide (g.n = x.n)) then gs.map (fun g => if g.d && decide (g.n = x.n) then ⟨g.n, g.d, g.l ++ [ndI x]⟩ else g) else gs ++ [⟨x.n, x.d, [ndI x]⟩]
def gOf (l : List It) : List Gp := l.foldl gput []
theorem gOf_snoc (l : List It) (x : It) : gOf (l ++ [x]) = gput (gOf l) x := by unfold gOf; rw [List.foldl_append]; rfl
theorem mates_snoc (l : List It) (x : It) (n : ByteArray) : mates (l ++ [x]) n = mates l n ++ (if isD x n then [ndI x] else []) := by
  unfold mates
  rw [List.filter_append, List.map_append]
  congr 1
  by_cases h : isD x n = true <;> simp [h]
theorem grp_id_snoc (l : List It) (x z : It) : grpBy id (l ++ [x]) z = ⟨z.n, z.d, if z.d then mates l z.n ++ (if isD x z.n then [ndI x] else []) else [ndI z]⟩ := by
  unfold grpBy
  rw [mates_snoc]
  rfl
theorem mem_gput {gs : List Gp} {x : It} {y : Gp} : y ∈ gput gs x ↔ (if x.d && gs.any (fun g => g.d && decide (g.n = x.n)) then ∃ g ∈ gs, (if g.d && decide (g.n = x.n) then ⟨g.n, g.d, g.l ++ [ndI x]⟩ else g) = y else y ∈ gs ∨ y = ⟨x.n, x.d, [ndI x]⟩) := by
  unfold gput
  split
  · rw [List.mem_map]
  · rw [List.mem_append, List.mem_singleton]
/-- Each group is one of an item. -/
theorem mem_gOf (l : List It) : ∀ y, y ∈ gOf l ↔ ∃ x ∈ l, y = grpBy id l x := by
  induction l using snoc_rec with
  | nil => intro y; simp [gOf]
  | snoc l x ih =>
    intro y
    rw [gOf_snoc, mem_gput]
    have hex : ((gOf l).any (fun g => g.d && decide (g.n = x.n))) = l.any (fun z => isD z x.n) := by
      rw [Bool.eq_iff_iff, List.any_eq_true, List.any_eq_true]
      constructor
      · rintro ⟨g, hg, hq⟩
        obtain ⟨z, hz, rfl⟩ := (ih g).1 hg
        exact ⟨z, hz, hq⟩
      · rintro ⟨z, hz, hq⟩
        exact ⟨_, (ih _).2 ⟨z, hz, rfl⟩, hq⟩
    rw [hex]
    cases hd : x.d with
    | false =>
      have hD : ∀ n, isD x n = false := fun n => by unfold isD; rw [hd]; rfl
      simp only [Bool.false_and, if_false, Bool.false_eq_true]
      constructor
      · rintro (hy | rfl)
        · obtain ⟨z, hz, rfl⟩ := (ih y).1 hy
          refine ⟨z, by simp [hz], ?_⟩
          rw [grp_id_snoc]
          unfold grpBy
          simp [hD]
        · refine ⟨x, by simp, ?_⟩
          rw [grp_id_snoc]
          simp [hd]
      · rintro ⟨z, hz, rfl⟩
        rcases List.mem_append.1 hz with hz | hz
        · left
          refine (ih _).2 ⟨z, hz, ?_⟩
          rw [grp_id_snoc]
          unfold grpBy
          simp [hD]
        · right
          rw [List.mem_singleton] at hz
          subst hz
          rw [grp_id_snoc]
          simp [hd]
    | true =>
      have hD : ∀ n, isD x n = decide (x.n = n) := fun n => by unfold isD; rw [hd]; rfl
      rw [Bool.true_and]
      cases ha : l.any (fun z => isD z x.n) with
      | false =>
        have hno : ∀ z ∈ l, isD z x.n = false := fun z hz => by
          have := List.any_eq_false.1 ha z hz
          simpa using this
        have hm : mates l x.n = [] := by
          unfold mates
          rw [List.filter_eq_nil_iff.2 (fun z hz => by rw [hno z hz]; decide)]
          rfl
        have hz' : ∀ z ∈ l, grpBy id (l ++ [x]) z = grpBy id l z := fun z hz => by
          rw [grp_id_snoc]
          unfold grpBy
          cases hzd : z.d with
          | false => simp
          | true =>
            have : x.n ≠ z.n := fun e => by have := hno z hz; unfold isD at this; rw [hzd, e] at this; simp at this
            simp [hD, this]
        have hx' : grpBy id (l ++ [x]) x = ⟨x.n, true, [ndI x]⟩ := by
          rw [grp_id_snoc, hd, hm]
          simp [hD]
        simp only [Bool.false_eq_true, if_false]
        constructor
        · rintro (hy | rfl)
          · obtain ⟨z, hz, rfl⟩ := (ih y).1 hy
            exact ⟨z, by simp [hz], (hz' z hz).symm⟩
          · exact ⟨x, by simp, hx'.symm⟩
        · rintro ⟨z, hz, rfl⟩
          rcases List.mem_append.1 hz with hz | hz
          · exact .inl ((ih _).2 ⟨z, hz, hz' z hz⟩)
          · rw [List.mem_singleton] at hz
            subst hz
            exact .inr hx'
      | true =>
        simp only [if_true]
        have hz' : ∀ z ∈ l, (if (grpBy id l z).d && decide ((grpBy id l z).n = x.n) then (⟨(grpBy id l z).n, (grpBy id l z).d, (grpBy id l z).l ++ [ndI x]⟩ : Gp) else grpBy id l z) = grpBy id (l ++ [x]) z := fun z hz => by
          rw [grp_id_snoc]
          unfold grpBy
          dsimp only
          rw [hD]
          cases hzd : z.d with
          | false => simp
          | true =>
            by_cases e : z.n = x.n
            · simp [e]
            · have e' : x.n ≠ z.n := fun q => e q.symm
              simp [e, e']
        obtain ⟨z0, hz0, hq0⟩ := List.any_eq_true.1 ha
        have hxz : grpBy id (l ++ [x]) x = grpBy id (l ++ [x]) z0 := by
          unfold isD at hq0
          simp only [Bool.and_eq_true, decide_eq_true_eq] at hq0
          unfold grpBy
          rw [hd, hq0.1, hq0.2]
          simp
        constructor
        · rintro ⟨g, hg, rfl⟩
          obtain ⟨z, hz, rfl⟩ := (ih g).1 hg
          exact ⟨z, by simp [hz], hz' z hz⟩
        · rintro ⟨z, hz, rfl⟩
          rcases List.mem_append.1 hz with hz | hz
          · exact ⟨_, (ih _).2 ⟨z, hz, rfl⟩, hz' z hz⟩
          · rw [List.mem_singleton] at hz
            subst hz
            exact ⟨_, (ih _).2 ⟨z0, hz0, rfl⟩, (hz' z0 hz0).trans hxz.symm⟩
end Go.Proofs.Ythbliaohaakbiaa
