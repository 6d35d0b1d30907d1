/- Lacks of the program. -/
import Derived.Test.YtgnnpfainoppeaaVL
import Derived.Test.YtgnnpfainoppeaaOwn
set_option linter.unusedVariables false
namespace Go.Proofs.Ytgnnpfainoppeaa.Ve
open Go.RowKit

abbrev Rg := Int × Int × Int
def cs3 : List Rg → List Value
  | [] => []
  | p :: r => .int .i64 p.1 :: .int .i64 p.2.1 :: .int .i64 p.2.2 :: cs3 r
theorem cs3_append : ∀ l m : List Rg, cs3 (l ++ m) = cs3 l ++ cs3 m
  | [], m => rfl
  | p :: r, m => by show _ :: _ :: _ :: cs3 (r ++ m) = _ :: _ :: _ :: (cs3 r ++ cs3 m); rw [cs3_append r m]
theorem cs3_one : ∀ (l : List Rg), ∀ u ∈ cs3 l, u.oneCell' = true
  | [], u, h => by cases h
  | p :: r, u, h => by
    rcases List.mem_cons.1 h with rfl | h
    · rfl
    · rcases List.mem_cons.1 h with rfl | h
      · rfl
      · rcases List.mem_cons.1 h with rfl | h
        · rfl
        · exact cs3_one r u h
theorem Try.u38 : Try.prog.underlying 50 = some (.slice 66) := by kernel_rfl
theorem info_parts {P : Program} {t : TypeId} {z : Option Value} {n b : Nat} (h : (P.info? t).map (fun i => (i.zero, i.size, i.bytes)) = some (z, n, b)) : ∃ i, P.info? t = some i ∧ i.zero = z ∧ i.size = n ∧ i.bytes = b := by
  cases hq : P.info? t with
  | none => rw [hq] at h; cases h
  | some i => rw [hq] at h; injection h with h; injection h with h1 h; injection h with h2 h3; exact ⟨i, rfl, h1, h2, h3⟩
theorem own_shape {w : World} {B e size n : Nat} {v : Value} {xs : List Value} (h : w.ownsRow B e size v n xs) : ∃ ao cap, v = .slice ao n cap := by
  rcases h.2 with ⟨rfl, rfl⟩ | ⟨g, cap, cur, rfl, _⟩
  · exact ⟨_, _, rfl⟩
  · exact ⟨_, _, rfl⟩
theorem own_less {w : World} {B B' e size n : Nat} {v : Value} {xs : List Value} (h : w.ownsRow B e size v n xs) (hB : B' ≤ B) : w.ownsRow B' e size v n xs := by
  refine ⟨h.1, ?_⟩
  rcases h.2 with h | ⟨g, cap, cur, e, hB2, rest⟩
  · exact .inl h
  · exact .inr ⟨g, cap, cur, e, by omega, rest⟩
theorem src_rg (w : World) (p : Rg) : Src Try.prog 3 50 (.slice (some ⟨w.heap.size, 0, none⟩) 1 1) 1 (cs3 [p]) (w.alloc (.cells #[.int .i64 p.1, .int .i64 p.2.1, .int .i64 p.2.2] 66)) := by
  have hg := heap_alloc_new w (.cells #[.int .i64 p.1, .int .i64 p.2.1, .int .i64 p.2.2] 66)
  refine Src.ofSlice _ Try.u38 _ _ _ _ rfl ?_ (cs3_one _)
  intro j u hj
  rw [add_addr, Nat.zero_add, cell_of_row _ _ _ _ _ _ hg]
  match j, hj with
  | 0, hj => injection hj with hj; subst hj; rfl
  | 1, hj => injection hj with hj; subst hj; rfl
  | 2, hj => injection hj with hj; subst hj; rfl
  | j + 3, hj => simp [cs3] at hj

end Go.Proofs.Ytgnnpfainoppeaa.Ve


