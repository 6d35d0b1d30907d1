/- PathTells' law. -/
import Derived.Test.YtgiiddcjepjgcaaDoorPN
set_option linter.unusedVariables false
namespace Go.Proofs.YtgiiddcjepjgcaaDoor
open Go.RowKit

theorem map_inj' : ∀ (l m : List ByteArray), bl l = bl m → l = m
  | [], [], _ => rfl
  | [], _ :: _, h => by cases h
  | _ :: _, [], h => by cases h
  | x :: l, y :: m, h => by
    have h1 : x.data.toList :: bl l = y.data.toList :: bl m := h
    injection h1 with h1 h2
    rw [ba_ext h1, map_inj' l m h2]
theorem no_slash {x : ByteArray} (h : ¬ BadFrom x 0) : ∀ c ∈ x.data.toList, c ≠ 47 := fun c hc e => h (by
  obtain ⟨j, hj, hjc⟩ := List.mem_iff_getElem.1 hc
  have hjs : j < x.size := by rw [Array.length_toList] at hj; exact hj
  refine ⟨j, Nat.zero_le _, hjs, ?_⟩
  have e2 : x.get! j = c := by
    rw [← hjc, Array.getElem_toList]
    show x.data[j]! = _
    exact getElem!_pos x.data j hjs
  rw [e2, e]
  decide)
theorem tx_size (l : List ByteArray) (hl : l.length ≤ 16) (hs : ∀ s ∈ l, s.size ≤ 300) : (tx l).size ≤ 6000 := by
  have := join_le l hs
  show (47 :: Lib.join (bl l) [47]).toArray.size ≤ _
  rw [List.size_toArray, List.length_cons]
  omega
theorem split_tx (l : List ByteArray) (hne : l ≠ []) (hn : ∀ p ∈ l, ckI p = 0) : Lib.splitB ⟨#[47]⟩ 0 (Lib.countB ⟨(Lib.join (bl l) [47]).toArray⟩ ⟨#[47]⟩) ⟨(Lib.join (bl l) [47]).toArray⟩ = l := by
  apply map_inj'
  have e := Lib.splitB_data ⟨#[47]⟩ 0 (Lib.countB ⟨(Lib.join (bl l) [47]).toArray⟩ ⟨#[47]⟩) ⟨(Lib.join (bl l) [47]).toArray⟩
  refine e.trans ?_
  cases l with
  | nil => exact absurd rfl hne
  | cons x l =>
    refine split_join x.data.toList (bl l) fun q hq => ?_
    have hq' : q ∈ bl (x :: l) := hq
    obtain ⟨p, hp, rfl⟩ := List.mem_map.1 hq'
    refine no_slash fun hb => ?_
    rcases ckI_is p with ⟨_, h⟩ | ⟨_, h, _⟩ | ⟨_, h, _⟩
    · rw [hn p hp] at h; cases h
    · exact h hb
    · exact h hb
theorem parse_tx (w : World) (l : List ByteArray) (m : Int) (hm : w.cell? ⟨0, 0, none⟩ = some (.int .i64 m)) (hl : l.length ≤ 16) (hs : ∀ s ∈ l, s.size ≤ 300) (hne : l ≠ []) (hn : ∀ p ∈ l, ckI p = 0) (hz : (tx l).size ≤ 4096) :
    Calls Tryd.prog 15 #[.string (tx l)] w fun e w' => ∃ v, e = .returned (.tuple #[v, .int .i64 0]) ∧ SLies w' v l ∧ Below w.heap.size w w' := by
  have hb : (ByteArray.mk (Lib.join (bl l) [47]).toArray).toList.isEmpty = false := by
    rw [ByteArray.toList_eq]
    show (Lib.join (bl l) [47]).isEmpty = false
    cases l with
    | nil => exact absurd rfl hne
    | cons x l =>
      show (Lib.join (x.data.toList :: bl l) [47]).isEmpty = false
      rw [Lib.join_cons]
      cases hx : x.data.toList with
      | cons c t => rfl
      | nil =>
        have h0 : x = ⟨#[]⟩ := ba_ext hx
        have := hn x (List.mem_cons_self ..)
        rw [h0, ckE] at this
        cases this
  have pc : parseC (tx l).size l = 0 := by
    unfold parseC
    rw [if_neg, if_neg]
    · intro q
      unfold lgF at q
      rw [Bool.or_eq_true, decide_eq_true_iff, List.any_eq_true] at q
      rcases q with q | ⟨p, hp, hc⟩
      · omega
      · rw [hn p (List.mem_of_mem_take hp)] at hc; cases hc
    · intro q
      obtain ⟨p, hp, hc⟩ := List.any_eq_true.1 q
      rw [hn p hp] at hc; cases hc
  refine (parse_any w (tx l) ⟨(Lib.join (bl l) [47]).toArray⟩ m hm rfl hb (by omega) l (split_tx l hne hn) (fun p hp => by have := hs p hp; omega)).mono ?_
  rintro e w' ⟨v, rfl, h1, h2⟩
  rw [pc]
  exact ⟨v, rfl, h1 pc, h2⟩
noncomputable def rtB (l : List ByteArray) (z i : Nat) : Bool := decide (z ≤ 4096) && (l.take i).all (fun p => ckI p == 0)
theorem rtB_step {l : List ByteArray} {z i : Nat} {p : ByteArray} (h : l[i]? = some p) : rtB l z (i + 1) = (rtB l z i && ckI p == 0) := by
  unfold rtB
  obtain ⟨hlt, hp⟩ := List.getElem?_eq_some_iff.1 h
  rw [List.take_succ_eq_append_getElem hlt, List.all_append, hp]
  simp [Bool.and_assoc]
theorem rtB_all {l : List ByteArray} {z : Nat} (h : rtB l z l.length = true) : z ≤ 4096 ∧ ∀ p ∈ l, ckI p = 0 := by
  unfold rtB at h
  rw [Bool.and_eq_true, decide_eq_true_iff, List.all_eq_true, List.take_length] at h
  exact ⟨h.1, fun p hp => by simpa using h.2 p hp⟩
theorem wi_up (l : List ByteArray) (k : Nat) (hk : l.length = k + 1) : wiB (l.take k) l = true := (wiB_iff _ _).2 ⟨by rw [List.length_take]; omega, by rw [List.length_take, show min k l.length = k by omega]⟩
end Go.Proofs.YtgiiddcjepjgcaaDoor
