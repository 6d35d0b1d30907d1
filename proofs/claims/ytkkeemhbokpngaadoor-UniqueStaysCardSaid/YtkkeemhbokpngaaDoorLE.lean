/- What letter.Pieces, and the reference's, return, at every text: a new slice of the pieces, from where each begins. -/
import Derived.Test.YtkkeemhbokpngaaDoorLD
import Derived.WalkSmall
import Derived.Deep.DeepMust
import Derived.Deep.Cut
set_option linter.unusedVariables false
namespace Go.Proofs.YtkkeemhbokpngaaDoor
open Go.RowKit

/-- The cells of the first k pieces. -/
def pc (s : ByteArray) : Nat → List Value
  | 0 => []
  | k + 1 => pc s k ++ [.int .i64 (bd s k : Nat), .int .i64 (wid s (bd s k) : Nat), .int .i64 (rn s (bd s k) : Nat)]
theorem pc_length (s : ByteArray) : ∀ k, (pc s k).length = k * 3
  | 0 => rfl
  | k + 1 => by show (pc s k ++ _).length = _; rw [List.length_append, pc_length s k]; simp; omega
theorem pc_get (s : ByteArray) : ∀ (n k : Nat), k < n → (pc s n)[k * 3]? = some (.int .i64 (bd s k : Nat)) ∧ (pc s n)[k * 3 + 1]? = some (.int .i64 (wid s (bd s k) : Nat)) ∧ (pc s n)[k * 3 + 2]? = some (.int .i64 (rn s (bd s k) : Nat))
  | 0, k, h => absurd h (Nat.not_lt_zero _)
  | n + 1, k, h => by
    have hl := pc_length s n
    show (pc s n ++ _)[_]? = _ ∧ (pc s n ++ _)[_]? = _ ∧ (pc s n ++ _)[_]? = _
    by_cases c : k = n
    · subst c
      rw [List.getElem?_append_right (by omega), List.getElem?_append_right (by omega), List.getElem?_append_right (by omega), hl,
        show k * 3 - k * 3 = 0 by omega, show k * 3 + 1 - k * 3 = 1 by omega, show k * 3 + 2 - k * 3 = 2 by omega]
      exact ⟨rfl, rfl, rfl⟩
    · rw [List.getElem?_append_left (by omega), List.getElem?_append_left (by omega), List.getElem?_append_left (by omega)]
      exact pc_get s n k (by omega)

theorem ownsRow_below {w w' : World} {base : Nat} {e : TypeId} {size : Nat} {v : Value} {n : Nat} {xs : List Value} (h : w.ownsRow base e size v n xs) (hb : Below w.heap.size w w') : w'.ownsRow base e size v n xs := by
  refine ⟨h.1, ?_⟩
  rcases h.2 with h2 | ⟨g, cap, cur, a, b, c, d⟩
  · exact .inl h2
  · exact .inr ⟨g, cap, cur, a, b, (hb.block g (Array.getElem?_eq_some_iff.1 c).1).trans c, d⟩
theorem cell_three_new (w : World) (a b c : Value) (t : TypeId) : ∀ j u, [a, b, c][j]? = some u → (w.alloc (.cells #[a, b, c] t)).cell? ((⟨w.heap.size, 0, none⟩ : Addr).add j) = some u := by
  intro j u hj
  match j, hj with
  | 0, hj => simp at hj; subst hj; simp [Addr.add]
  | 1, hj => simp at hj; subst hj; simp [Addr.add]
  | 2, hj => simp at hj; subst hj; simp [Addr.add]
  | j + 3, hj => simp at hj

/-- It returns a new slice that holds these cells. -/
def OwnRet (E : TypeId) (N : Nat) (xs : List Value) (w : World) (e : Ending) (w' : World) : Prop :=
  ∃ v, e = .returned v ∧ w'.ownsRow w.heap.size E 3 v N xs ∧ Below w.heap.size w w'

theorem app_below {w w' w3 : World} {v : Value} {E k b : Nat} {xs : List Value} {o : Obj} (hb4 : Below w.heap.size w w') (ho3 : w'.ownsRow b E 3 v k xs) (hb : w.heap.size ≤ b)
    (hg : (w'.alloc o).grownBy w3 v.ownBlock) : Below w.heap.size w w3 :=
  (hb4.alloc hb4.size o).grown hg (by have := hb4.size; simp; omega) (fun j hj => Nat.le_trans hb (ho3.lt j hj).1)

theorem info52 : (Tryd.prog.info? 41).map (fun i => (i.zero, i.size, i.bytes)) = some (some (.agg #[.int .i64 0, .int .i64 0, .int .i64 0]), 3, 24) := by kernel_rfl

set_option maxRecDepth 100000 in
set_option maxHeartbeats 400000 in
theorem rpieces_any (s : ByteArray) (N : Nat) (w : World) (hs : s.size ≤ 1099511627000) (hN : IsN s N) :
    Calls Tryd.prog 26 #[.string s] w (OwnRet 41 N (pc s N) w) := by
  have hNs := isN_le hN
  have HN := Lib.hid hN
  clear hN
  obtain ⟨i0, hi, hz0, hz1, hz2⟩ := info_parts info52
  go_enter Tryd.func26, Tryd.ntmps26
  go_wp2
  go_loopw [3, 4, 5] (fun lv av _ wr => ∃ k : Nat, k ≤ N ∧ av = .int .i64 (bd s k : Nat) ∧ wr.ownsRow w.heap.size 41 3 lv k (pc s k) ∧ Below w.heap.size w wr) (fun _ av _ _ => s.size - (intOf av).toNat)
  case atStart => exact ⟨0, Nat.zero_le _, rfl, World.ownsRow_nil _ _ _ _, Below.refl _ _⟩
  case round =>
    obtain ⟨k, hk, rfl, hown, hbw⟩ := hrel
    have hle := bd_le s k
    by_cases hlt : k < N
    · have hp := HN.out.2 k hlt
      have hb := isN_succ HN.out hlt
      have hw := wid_pos s (bd s k)
      have hw4 := wid_four s (bd s k)
      have hbs := bd_le s (k + 1)
      have c10 : ∀ w, Calls Tryd.prog 28 #[.string s, .int .i64 (bd s k : Nat)] w fun e w' => e = .returned (.agg #[.int .i64 (bd s k : Nat), .int .i64 (wid s (bd s k) : Nat), .int .i64 (rn s (bd s k) : Nat)]) ∧ Below w.heap.size w w' := fun w => rnext_any s (bd s k) w hs hp
      have C := Lib.hid c10
      have HO := Lib.hid hown
      have HB := Lib.hid hb
      clear c10 hown hb
      have hpk : Hid (pc s (k + 1) = pc s k ++ [.int .i64 (bd s k : Nat), .int .i64 (wid s (bd s k) : Nat), .int .i64 (rn s (bd s k) : Nat)]) := by exact rfl
      generalize rn s (bd s k) = x at C hpk
      generalize wid s (bd s k) = y at C hpk HB hw hw4
      go_wp2_with fail
      refine (C.out _).mono ?_
      rintro e w' ⟨rfl, hb3⟩
      have ho3 := Lib.hid (ownsRow_below HO.out hb3)
      have hb4 := hbw.trans (hb3.mono hbw.size)
      clear hb3 hbw
      have hsz := hb4.size
      obtain ⟨W4, hW4⟩ : ∃ W4, w'.alloc (.cells #[.int .i64 (bd s k : Nat), .int .i64 y, .int .i64 x] 41) = W4 := ⟨_, rfl⟩
      have hz4 : W4.heap.size = w'.heap.size + 1 := by rw [← hW4]; simp
      have hh4 : W4.heap[w'.heap.size]? = some (.cells #[.int .i64 (bd s k : Nat), .int .i64 y, .int .i64 x] 41 (0, 0)) := by rw [← hW4]; exact heap_alloc_new w' _
      have ho4 : W4.ownsRow w.heap.size 41 3 u3 k (pc s k) := by rw [← hW4]; exact ho3.out.alloc _
      have hb5 : Below w.heap.size w W4 := by rw [← hW4]; exact hb4.alloc hsz _
      have hlt3 : ∀ g, u3.ownBlock = some g → g < w'.heap.size := fun g hg => (ho3.out.lt g hg).2
      have c0 : W4.cell? ⟨w'.heap.size, 0, none⟩ = some (.int .i64 (bd s k : Nat)) := by rw [cell_of_row _ _ _ _ _ _ hh4]; rfl
      have c1 : W4.cell? ⟨w'.heap.size, 1, none⟩ = some (.int .i64 y) := by rw [cell_of_row _ _ _ _ _ _ hh4]; rfl
      have c2 : W4.cell? ⟨w'.heap.size, 2, none⟩ = some (.int .i64 x) := by rw [cell_of_row _ _ _ _ _ _ hh4]; rfl
      have HH4 := Lib.hid hh4
      have HO4 := Lib.hid ho4
      have HL3 := Lib.hid hlt3
      have HZ4 := Lib.hid hz4
      clear hh4 ho4 hlt3 hz4
      have hge4 : w'.heap.size < W4.heap.size := by rw [HZ4.out]; omega
      go_upto_region 5 with (fail)
      clear hW4
      go_upto_region 6 with (at_builtin; go_must (refine wpList_append_own _ rfl (.tmp 13) (.tmp 15) 38 rfl w.heap.size 41 i0 (.agg #[.int .i64 0, .int .i64 0, .int .i64 0]) 3 24 Tryd.underlying38 hi hz0 hz1 hz2 rfl (by decide) _ _ _ rfl (HO4.out.alloc _) ⟨W4.heap.size, 0, none⟩ 1 1 [.int .i64 (bd s k : Nat), .int .i64 y, .int .i64 x] rfl rfl (cell_three_new _ _ _ _ _) (by intro u hu; simp at hu; rcases hu with rfl | rfl | rfl <;> rfl) (by unfold maxLen; omega) (by omega) (by simp; omega) ?_; intro v3 w3 hown3 hgrow3 hnil3))
      have d1 : w3.cell? ⟨w'.heap.size, 1, none⟩ = some (.int .i64 y) := by
        refine hgrow3.cell ?_ (fun e => ?_)
        · rw [cell_of_row _ _ _ _ _ _ ((Below.heap_alloc _ _ _ hge4).trans HH4.out)]; rfl
        · have := HL3.out _ e.symm; simp at this
      have hb6 := app_below hb5 HO4.out (Nat.le_refl _) hgrow3
      have hye : bd s k + y = bd s (k + 1) := HB.out.symm
      have HO5 := Lib.hid hown3
      have HYE := Lib.hid hye
      have hbl : bd s k < bd s (k + 1) := by omega
      have hyy : bd s k + y ≤ s.size := by omega
      clear hown3 hgrow3 hnil3 c0 c1 c2 hye
      go_wp2
      go_roundw
      case rel => exact ⟨k + 1, by omega, by rw [← HYE.out]; go_num, by rw [hpk.out]; exact HO5.out, hb6⟩
      case measure => simp [intOf]; omega
    · obtain rfl : k = N := by omega
      have hp : ¬ bd s k < s.size := by rw [HN.out.1]; omega
      have HO := Lib.hid hown
      clear hown
      go_wp2
      go_ret
      exact ⟨_, rfl, HO.out, hbw⟩
end Go.Proofs.YtkkeemhbokpngaaDoor
