/- slices.Sort over a row of strings that the call owns. -/
import Derived.Test.YtgbihpfpiaacfaaGreatDoorShelf
import Derived.Test.YtgbihpfpiaacfaaGreatDoorDD
set_option linter.unusedVariables false
set_option linter.unusedSimpArgs false
set_option maxRecDepth 100000
namespace Go.Proofs.YtgbihpfpiaacfaaGreatDoor
open Go.RowKit Go.Sort Go.Shelf

theorem bl_lt : ∀ a b : List UInt8, Op.bytesLess a b = true ↔ a < b
  | [], [] => by simp [Op.bytesLess]
  | [], _ :: _ => by simp [Op.bytesLess]
  | _ :: _, [] => by simp [Op.bytesLess]
  | x :: a, y :: b => by
    have ih := bl_lt a b
    simp only [Op.bytesLess, Bool.or_eq_true, Bool.and_eq_true, decide_eq_true_eq, beq_iff_eq, List.cons_lt_cons_iff, ih]
theorem le_bl (a b : List UInt8) : a ≤ b ↔ Op.bytesLess b a = false := by
  rw [← Bool.not_eq_true, bl_lt]
  exact List.not_lt.symm
def encT (s : ByteArray) : List Value := [.string s]
theorem encT_len (x : ByteArray) : (encT x).length = 1 := rfl
theorem encT_one (x : ByteArray) : ∀ v ∈ encT x, v.oneCell' = true := by
  intro v hv
  unfold encT at hv
  simp at hv
  subst hv
  rfl
theorem info9 : (Tryz.prog.info? 9).map (fun i => (i.zero, i.size, i.bytes)) = some (some (.string ⟨#[]⟩), 1, 16) := by kernel_rfl
theorem Tryz.u52 : Tryz.prog.underlying 33 = some (.slice 9) := by kernel_rfl
theorem flat_T (l : List ByteArray) : l.flatMap encT = l.map .string := by
  induction l with
  | nil => rfl
  | cons a l ih => rw [List.flatMap_cons, ih]; rfl
abbrev bts (s : ByteArray) : List UInt8 := s.data.toList
theorem heapS {w : World} {g n : Nat} {os : Array Obj} {cur : Array Value} {e : TypeId} {fr : Nat × Nat} (d : Array (List UInt8)) (hb : w.heap[g]? = some (.cells cur e fr)) :
    (grow (putRow encStr (Sort.ahead w n) g 0 d) os).heap[g]? = some (.cells (putCells encStr 0 d cur) e fr) := by
  have hg : g < w.heap.size := (Array.getElem?_eq_some_iff.1 hb).1
  rw [heap_grow_old _ _ (by simpa [putRow, mapBlock, Sort.ahead] using hg)]
  simp [putRow, mapBlock, Sort.ahead, Array.getElem?_modify, hb, onCells]
theorem grownS {w : World} {g n : Nat} {os : Array Obj} (d : Array (List UInt8)) : w.grownBy (grow (putRow encStr (Sort.ahead w n) g 0 d) os) (some g) := by
  refine ⟨rfl, rfl, rfl, by simp [putRow, mapBlock, Sort.ahead, grow], fun i hi hne => ?_⟩
  rw [heap_grow_old _ _ (by simpa [putRow, mapBlock, Sort.ahead] using hi)]
  have : g ≠ i := fun e => hne (by rw [e])
  simp [putRow, mapBlock, Sort.ahead, Array.getElem?_modify, this]
theorem takeS (cur : Array Value) (l : List (List UInt8)) (h : l.length ≤ cur.size) : (putCells encStr 0 l.toArray cur).toList.take l.length = l.map encStr := by
  apply List.ext_getElem?
  intro j
  by_cases hj : j < l.length
  · rw [List.getElem?_take_of_lt hj, Array.getElem?_toList]
    have hc : j < cur.size := by omega
    unfold putCells
    rw [Array.getElem?_mapIdx, Array.getElem?_eq_getElem hc]
    simp [hj]
  · rw [List.getElem?_take_eq_none (by omega), List.getElem?_eq_none (by rw [List.length_map]; omega)]
theorem sortS_own (w : World) (B : Nat) (v : Value) (l : List ByteArray) (h : w.ownsRow B 9 1 v l.length (l.flatMap encT)) (hl : l.length < 1000000) :
    Calls Tryz.prog 40 #[v] w fun e w' => e = .returned (.tuple #[]) ∧ ∃ l' : List ByteArray, l'.Perm l ∧ l'.Pairwise (fun x y => ltB y x = false) ∧ w'.ownsRow B 9 1 v l'.length (l'.flatMap encT) ∧ w.grownBy w' v.ownBlock := by
  rcases h.2 with ⟨rfl, h0⟩ | ⟨g, cap, cur, rfl, hB, hb, h1, h2, h3, h4⟩
  · have hn : l = [] := List.eq_nil_of_length_eq_zero h0
    subst hn
    refine (Tryz.slices_Sort_string_none none 0 w).mono ?_
    rintro e w' ⟨rfl, rfl⟩
    exact ⟨rfl, [], .refl _, List.Pairwise.nil, h, World.grownBy.mk rfl rfl rfl (Nat.le_refl _) (fun _ _ _ => rfl)⟩
  · have hg : g < w.heap.size := lt_of_block hb
    have hH : Holds encStr w g 0 (l.map bts).toArray := by
      intro j hj
      have hj' : j < l.length := by simpa using hj
      refine ⟨?_, by simp [World.frozen?, hb]⟩
      have hcc := h.cells (g := g) rfl j (.string l[j]) (by rw [flat_T, List.getElem?_map, List.getElem?_eq_getElem hj']; rfl)
      rw [rk_addr, Nat.zero_add] at hcc
      rw [Nat.zero_add, hcc]
      congr 1
      simp [hj']
    have hcon := Tryz.slices_Sort_string g 0 cap (l.map bts) w hH hg (by simp; omega)
    rw [List.length_map] at hcon
    refine hcon.mono ?_
    rintro e w' ⟨rfl, n, os, rfl⟩
    obtain ⟨ss, hss⟩ : ∃ ss, (l.map bts).mergeSort (fun x y => decide (x ≤ y)) = ss := ⟨_, rfl⟩
    have hp : ss.Perm (l.map bts) := by rw [← hss]; exact List.mergeSort_perm _ _
    have hw : ss.Pairwise (fun x y => decide (x ≤ y) = true) := by
      rw [← hss]
      refine List.pairwise_mergeSort ?_ ?_ _
      · intro a b c h1 h2
        simp only [decide_eq_true_eq, le_bl] at h1 h2 ⊢
        cases hca : Op.bytesLess c a with
        | false => rfl
        | true =>
          cases hab : Op.bytesLess a b with
          | true => rw [ltL_trans hca hab] at h2; cases h2
          | false => rw [ltL_total hab h1] at hca; rw [hca] at h2; cases h2
      · intro a b
        simp only [Bool.or_eq_true, decide_eq_true_eq, le_bl]
        cases hab : Op.bytesLess b a with
        | false => exact .inl rfl
        | true =>
          right
          cases hba : Op.bytesLess a b with
          | false => rfl
          | true => have := ltL_trans hab hba; rw [ltL_irrefl] at this; cases this
    rw [hss]
    have hlen : ss.length = l.length := by rw [hp.length_eq, List.length_map]
    have hmap : (ss.map (fun x => (⟨x.toArray⟩ : ByteArray))).map .string = ss.map encStr := by rw [List.map_map]; rfl
    refine ⟨rfl, ss.map (fun x => ⟨x.toArray⟩), ?_, ?_, ⟨by rw [flat_len encT_len], .inr ⟨g, cap, _, ?_, hB, heapS ss.toArray hb, by rw [List.length_map, hlen]; exact h1, h2, by simp [putCells, h3], ?_⟩⟩, grownS _⟩
    · have := hp.map (fun x => (⟨x.toArray⟩ : ByteArray))
      rw [List.map_map] at this
      simpa [Function.comp_def] using this
    · rw [List.pairwise_map]
      refine hw.imp (fun {a b} hab => ?_)
      simp only [decide_eq_true_eq, le_bl] at hab
      unfold ltB
      have e1 : ∀ u : List UInt8, (⟨u.toArray⟩ : ByteArray).toList = u := fun u => by
        simp
      rw [e1, e1]
      exact hab
    · rw [List.length_map, hlen]
    · rw [List.length_map, flat_T, hmap, Nat.mul_one]
      exact takeS cur ss (by rw [hlen, h3]; omega)
end Go.Proofs.YtgbihpfpiaacfaaGreatDoor

