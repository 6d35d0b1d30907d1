/- The law's and the reference's small functions: at, one, far, same. -/
import Derived.Test.YtgnnpfainoppeaaGK
set_option linter.unusedVariables false
set_option linter.unusedSimpArgs false
set_option maxRecDepth 100000
namespace Go.Proofs.Ytgnnpfainoppeaa
open Go.RowKit Go.WideMaps Go.Maps
open Ve (zs zs_len vw va RightP cs3 cs3_append)

theorem at_take {l : List O} {r q : Int} {i : Nat} {x : O} (h : l[i]? = some x) : atG (l.take (i + 1)) r q = (atG (l.take i) r q || isG r q x) := by
  rw [Ve.take_snoc' l i x h]
  unfold atG
  rw [List.any_append]
  simp
theorem at_some {l : List O} {r q : Int} {i : Nat} {x : O} (h : l[i]? = some x) (hx : isG r q x = true) : atG l r q = true := by
  unfold atG
  rw [List.any_eq_true]
  exact ⟨x, List.mem_of_getElem? h, hx⟩
set_option maxHeartbeats 1600000 in
theorem at_any (w : World) (v : Value) (l : List O) (hv : OLies w v l) (r q : Int) :
    Calls Try.prog 25 #[v, .int .i64 r, .int .i64 q] w fun e w' => e = .returned (.bool (atG l r q)) ∧ w = w' := by
  have V := Lib.hid hv
  have hl := hv.len
  obtain ⟨ao, cap, rfl⟩ := hv.shape
  clear hv
  go_enter Try.func25, Try.ntmps25
  go_wp2
  go_loop [7] (fun iv => ∃ i : Nat, iv = .int .i64 i ∧ i ≤ l.length ∧ Hid (atG (l.take i) r q = false)) (fun iv => l.length - (intOf iv).toNat)
  case atStart => exact ⟨0, rfl, Nat.zero_le _, Lib.hid rfl⟩
  case round =>
    obtain ⟨i, rfl, hi, hF⟩ := hrel
    by_cases hlt : i < l.length
    · obtain ⟨k, off, o, rfl, ho, hk, e0, e1, e2, e3, e4, e5, e6, e7, e8⟩ := V.out.at' hlt
      have hi0 : (0 : Int) ≤ (i : Int) := by omega
      have hi1 : (i : Int) < (l.length : Int) := by omega
      have HN := Lib.hid (at_take (r := r) (q := q) ho)
      by_cases hq : o.r = r ∧ o.q = q
      · have E := Lib.hid (at_some (r := r) (q := q) ho (by unfold isG; exact decide_eq_true hq))
        have hq1 := beqb_ o.r r hq.1
        have hq2 := beqb_ o.q q hq.2
        clear ho hk hF hq HN
        go_wp2
        go_returns
        exact ⟨by rw [E.out]; rfl, rfl⟩
      · have HF2 := Lib.hid (show atG (l.take (i + 1)) r q = false by rw [HN.out, hF.out]; unfold isG; rw [decide_eq_false hq]; rfl)
        have hd : (o.r == r) = false ∨ ((o.r == r) = true ∧ (o.q == q) = false) := by
          by_cases e : o.r = r
          · exact .inr ⟨beqb_ _ _ e, bneb_ _ _ (fun e2 => hq ⟨e, e2⟩)⟩
          · exact .inl (bneb_ _ _ e)
        clear ho hk hF hq HN
        rcases hd with hd | ⟨hd, hd2⟩
        all_goals
          go_wp2
          go_round
          case rel => exact ⟨i + 1, by go_num, by omega, HF2⟩
          case measure => simp [intOf]; omega
    · have E := Lib.hid (show atG l r q = false by
        have := hF.out
        rwa [List.take_of_length_le (Nat.le_of_not_lt hlt)] at this)
      go_wp2
      go_returns
      exact ⟨by rw [E.out]; rfl, rfl⟩
def oneO (r n : Int) : O := ⟨n, r, n, n, r, 0, 0, ⟨#[97]⟩, false⟩
set_option maxHeartbeats 1600000 in
theorem one_any (w : World) (r n : Int) :
    Calls Try.prog 21 #[.int .i64 r, .int .i64 n] w fun e w' => e = .returned (oV (oneO r n)) ∧ Below w.heap.size w w' := by
  have A0 := alloc40 w
  have N0 := heap_alloc_new w (.cells (oCells O0) 35)
  have B0 := vstep w (.cells (oCells O0) 35)
  obtain ⟨w1, hw1⟩ : ∃ z, w.alloc (.cells (oCells O0) 35) = z := ⟨_, rfl⟩
  rw [hw1] at A0 N0 B0
  have B1 := vstep w1 (.cells #[.int .i64 n, .int .i64 r] 33)
  have N1 := (B1.block _ (lt_of_block N0)).trans N0
  have B2 := B0.trans (B1.mono B0.size)
  have ST := store_o (w1.alloc (.cells #[.int .i64 n, .int .i64 r] 33)) w.heap.size O0 (oneO r n) N1
  have R2 := setRow_heap _ _ _ (oCells (oneO r n)) _ _ N1
  have X2 := Lib.hid (Ve.below_setRow B2 (g := w.heap.size) (Nat.le_refl _) (oCells (oneO r n)))
  have A0H := Lib.hid A0
  have STH := Lib.hid ST
  have d0 := (cell_of_row _ _ 0 _ _ _ R2).trans (show (oCells (oneO r n))[0]? = some (.int .i64 n) from rfl)
  have d1 := (cell_of_row _ _ 1 _ _ _ R2).trans (show (oCells (oneO r n))[1]? = some (.int .i64 r) from rfl)
  have d2 := (cell_of_row _ _ 2 _ _ _ R2).trans (show (oCells (oneO r n))[2]? = some (.int .i64 n) from rfl)
  have d3 := (cell_of_row _ _ 3 _ _ _ R2).trans (show (oCells (oneO r n))[3]? = some (.int .i64 n) from rfl)
  have d4 := (cell_of_row _ _ 4 _ _ _ R2).trans (show (oCells (oneO r n))[4]? = some (.int .i64 r) from rfl)
  have d5 := (cell_of_row _ _ 5 _ _ _ R2).trans (show (oCells (oneO r n))[5]? = some (.int .i64 0) from rfl)
  have d6 := (cell_of_row _ _ 6 _ _ _ R2).trans (show (oCells (oneO r n))[6]? = some (.int .i64 0) from rfl)
  have d7 := (cell_of_row _ _ 7 _ _ _ R2).trans (show (oCells (oneO r n))[7]? = some (.string ⟨#[97]⟩) from rfl)
  have d8 := (cell_of_row _ _ 8 _ _ _ R2).trans (show (oCells (oneO r n))[8]? = some (.bool false) from rfl)
  have HS := Lib.hid (show oV (oneO r n) = .agg #[.int .i64 n, .int .i64 r, .int .i64 n, .int .i64 n, .int .i64 r, .int .i64 0, .int .i64 0, .string ⟨#[97]⟩, .bool false] from rfl)
  rw [HS.out] at STH ⊢
  clear A0 N0 B0 B1 N1 B2 ST R2
  go_enter Try.func21, Try.ntmps21
  go_wp2_with (first | (refine Ve.wpList_alloc_arr rfl 35 rfl _ _ A0H.out ?_; simp only [Act.put, List.setIfInBounds_toArray, List.set_cons_zero, List.set_cons_succ]) | refine Ve.wpList_store_arr rfl (.tmp 4) (.tmp 12) 35 rfl _ _ rfl rfl _ STH.out ?_ | refine bodyPost_ret (by simp [results, Try.results21, go_sem, d0, d1, d2, d3, d4, d5, d6, d7, d8]; try rfl) rfl ⟨rfl, X2.out⟩)
end Go.Proofs.Ytgnnpfainoppeaa
