/- A disk: New; a file put, the others kept; Create. -/
import Derived.Test.YtgbihpfpiaacfaaGreatDoorDG
set_option linter.unusedVariables false
set_option linter.unusedSimpArgs false
set_option maxRecDepth 100000
namespace Go.Proofs.YtgbihpfpiaacfaaGreatDoor
open Go.RowKit Go.WideMaps Go.Maps

theorem own_grown {w w' : World} {b : Nat} {B e k n : Nat} {v : Value} {xs : List Value} (h : w.ownsRow B e k v n xs) (hg : w.grownBy w' (some b)) (hn : v.ownBlock ≠ some b) : w'.ownsRow B e k v n xs :=
  h.kept hg (.inr hn)
theorem Out.turned {w w2 : World} {B d b : Nat} {s : DS} (h : DK w B d s) (hm : s.m = some b) (l' : List Fl) (Bad : Nat → Prop) (hf : Far (fun k => k = b ∨ Bad k) w w2) (hbad : ∀ k, Bad k → ∃ x ∈ s.l, x.v.ownBlock = some k) (hd : DM w2 b l')
    (hrows : ∀ x ∈ l', w2.ownsRow B 5 1 x.v x.b.length (x.b.flatMap encB)) (hfar : l'.Pairwise (fun x y => ∀ k, x.v.ownBlock = some k → y.v.ownBlock ≠ some k)) (hsub : ∀ x ∈ l', ∀ k, x.v.ownBlock = some k → (∃ y ∈ s.l, y.v.ownBlock = some k) ∨ w.heap.size ≤ k) (hu : (usedF l' : Int) ≤ s.room) (hsu : ∀ x ∈ l', 0 ≤ x.s ∧ x.s ≤ (x.b.length : Int)) :
    Out B d s { s with l := l' } w w2 := by
  obtain ⟨n1, n2⟩ := h.nd
  have hB : B ≤ b := (h.base b (.inr (.inl hm))).1
  refine ⟨⟨?_, h.bd, .inr ⟨b, hm, hB, hd⟩, hrows, hfar, h.left, h.roomok, hu, hsu⟩, ⟨hf.os, hf.tape, hf.output, hf.size, fun k hk hn => hf.block k hk ?_⟩, ?_⟩
  · refine (hf.block d h.dlt ?_).trans h.box
    rintro (e | e)
    · exact n1 (by rw [hm, e])
    · obtain ⟨x, hx, e⟩ := hbad d e
      exact n2 x hx e
  · rintro (e | e)
    · exact hn (.inr (.inl (by rw [hm, e])))
    · exact hn (.inr (.inr (hbad k e)))
  · rintro k (e | e | ⟨x, hx, e⟩)
    · exact .inl (.inl e)
    · exact .inl (.inr (.inl e))
    · rcases hsub x hx k e with q | q
      · exact .inl (.inr (.inr q))
      · exact .inr q
theorem far_set_pair {l : List Fl} {y : Fl} (h : l.Pairwise (fun x y => ∀ k, x.v.ownBlock = some k → y.v.ownBlock ≠ some k)) (hy : ∀ x ∈ l, sameN x y = false → ∀ k, x.v.ownBlock = some k → y.v.ownBlock ≠ some k) : (setF l y).Pairwise (fun x y => ∀ k, x.v.ownBlock = some k → y.v.ownBlock ≠ some k) := by
  refine ((set_perm y).pairwise_iff (fun {a b} hab k e1 e2 => hab k e2 e1)).2 (List.pairwise_cons.2 ⟨fun x hx k e1 e2 => ?_, h.filter _⟩)
  obtain ⟨h1, h2⟩ := List.mem_filter.1 hx
  exact hy x h1 (by simpa using h2) k e2 e1
theorem far_one {l : List Fl} (h : l.Pairwise (fun x y => ∀ k, x.v.ownBlock = some k → y.v.ownBlock ≠ some k)) {x y : Fl} (hx : x ∈ l) (hy : y ∈ l) (hne : x ≠ y) : ∀ k, x.v.ownBlock = some k → y.v.ownBlock ≠ some k := by
  induction l with
  | nil => cases hx
  | cons a l ih =>
    obtain ⟨h1, h2⟩ := List.pairwise_cons.1 h
    rcases List.mem_cons.1 hx with e1 | m1
    · rcases List.mem_cons.1 hy with e2 | m2
      · exact absurd (e1.trans e2.symm) hne
      · rw [e1]; exact h1 y m2
    · rcases List.mem_cons.1 hy with e2 | m2
      · intro k p q; rw [e2] at q; exact h1 x m1 k q p
      · exact ih h2 m1 m2
/-- A file set. -/
theorem Out.put {w w2 : World} {B d b : Nat} {s : DS} (h : DK w B d s) (hm : s.m = some b) (y : Fl) (hf : Far (fun k => k = b ∨ ∃ x ∈ s.l, x.n = y.n ∧ x.v.ownBlock = some k) w w2) (hd : DM w2 b (setF s.l y))
    (hr : w2.ownsRow B 5 1 y.v y.b.length (y.b.flatMap encB)) (hnew : ∀ k, y.v.ownBlock = some k → w.heap.size ≤ k ∨ ∃ x ∈ s.l, x.n = y.n ∧ x.v.ownBlock = some k) (hu : (usedF (setF s.l y) : Int) ≤ s.room) (hsy : 0 ≤ y.s ∧ y.s ≤ (y.b.length : Int)) :
    Out B d s { s with l := setF s.l y } w w2 := by
  have apart : ∀ x ∈ s.l, sameN x y = false → ∀ k, x.v.ownBlock = some k → y.v.ownBlock ≠ some k := by
    intro x hx hs k e1 e2
    rcases hnew k e2 with q | ⟨z, hz, hn, ez⟩
    · have := ((h.rows x hx).lt k e1).2; omega
    · refine far_one h.far hx hz (fun e => ?_) k e1 ez
      subst e
      unfold sameN at hs
      simp [hn] at hs
  refine Out.turned h hm (setF s.l y) (fun k => ∃ x ∈ s.l, x.n = y.n ∧ x.v.ownBlock = some k) hf (fun k ⟨x, hx, _, e⟩ => ⟨x, hx, e⟩) hd ?_ (far_set_pair h.far apart) ?_ hu (fun x hx => by
    rcases mem_set.1 hx with rfl | ⟨hx, _⟩
    · exact hsy
    · exact h.sure x hx)
  · intro x hx
    rcases mem_set.1 hx with rfl | ⟨hx, hs⟩
    · exact hr
    · refine hf.row (h.rows x hx) (fun j e => ?_)
      rintro (q | ⟨z, hz, hn, ez⟩)
      · subst q; exact h.nm hm x hx e
      · refine far_one h.far hx hz (fun e => ?_) j e ez
        subst e
        unfold sameN at hs
        simp [hn] at hs
  · intro x hx k e
    rcases mem_set.1 hx with rfl | ⟨hx, hs⟩
    · rcases hnew k e with q | ⟨z, hz, _, ez⟩
      · exact .inr q
      · exact .inl ⟨z, hz, ez⟩
    · exact .inl ⟨x, hx, e⟩
/-- A map made for it. -/
theorem Out.mapped {w : World} {B d : Nat} {s : DS} (h : DK w B d s) (hB : B ≤ w.heap.size) (hm : s.m = none) : Out B d s { s with m := some w.heap.size } w ((w.alloc (.map #[] 0)).setCell ⟨d, 1, none⟩ (.map (some w.heap.size))) := by
  have hl : s.l = [] := by
    rcases h.map with ⟨_, h1⟩ | ⟨b, h0, _⟩
    · exact h1
    · rw [h0] at hm; cases hm
  have h1 := h.step (vstep w (.map #[] 0))
  have hf := far_set (w.alloc (.map #[] 0)) d 1 (.map (some w.heap.size))
  refine ⟨⟨?_, h.bd, .inr ⟨w.heap.size, rfl, hB, ?_⟩, fun x hx => ?_, h.far, h.left, h.roomok, h.fits, h.sure⟩, ?_, ?_⟩
  · exact row_setC (j := 1) (u := .map (some w.heap.size)) h1.box
  · show DM _ _ s.l
    rw [hl]
    exact hf.map (DM.made w) (fun e => by have := h.dlt; omega)
  · have hx : x ∈ s.l := hx
    rw [hl] at hx
    cases hx
  · exact ((Far.of_below (P := Has d s) (vstep w _)).trans hf (fun k hk e => .inl e))
  · rintro k (e | e | ⟨x, hx, e⟩)
    · exact .inl (.inl e)
    · injection e with e; exact .inr (by omega)
    · exact .inl (.inr (.inr ⟨x, hx, e⟩))
set_option maxHeartbeats 800000 in
theorem new_any (w : World) (n : Int) (hn : 0 ≤ n ∧ n ≤ 16777216) : Calls Tryz.prog 8 #[.int .i64 n] w fun e w' => e = .returned (.tuple #[pv w.heap.size, .int .i64 0]) ∧ DK w' w.heap.size w.heap.size ⟨none, n, [], false, 0, false⟩ ∧ Below w.heap.size w w' := by
  obtain ⟨h1, h2⟩ := hn
  have F := Lib.hid (show DK (w.alloc (.cells #[.int .i64 n, .map none, .bool false, .int .i64 0, .bool false] 70)) w.heap.size w.heap.size ⟨none, n, [], false, 0, false⟩ ∧ Below w.heap.size w (w.alloc (.cells #[.int .i64 n, .map none, .bool false, .int .i64 0, .bool false] 70)) from
    ⟨⟨heap_alloc_new w _, Nat.le_refl _, .inl ⟨rfl, rfl⟩, (fun x hx => by cases hx), List.Pairwise.nil, ⟨by show (-9223372036854775808 : Int) ≤ 0; omega, by show (0 : Int) ≤ 9223372036854775807; omega, fun e => by cases e⟩, ⟨h1, h2⟩, by simp [usedF]; exact h1, (fun x hx => by cases hx)⟩, vstep w _⟩)
  have n1 : ¬ n < 0 := by omega
  have n2 : ¬ (16777216 < n) := by omega
  go_enter Tryz.func8, Tryz.ntmps8
  go_wp2
  go_returns
  exact ⟨rfl, F.out⟩
theorem new_bad (w : World) (n : Int) (hn : ¬ (0 ≤ n ∧ n ≤ 16777216)) : Calls Tryz.prog 8 #[.int .i64 n] w fun e w' => e = .returned (.tuple #[.pointer none, .int .i64 2]) ∧ w = w' := by
  by_cases h1 : n < 0
  · go_enter Tryz.func8, Tryz.ntmps8
    go_wp2
    go_returns
    exact ⟨rfl, rfl⟩
  · have h2 : 16777216 < n := by omega
    go_enter Tryz.func8, Tryz.ntmps8
    go_wp2
    go_returns
    exact ⟨rfl, rfl⟩
end Go.Proofs.YtgbihpfpiaacfaaGreatDoor

