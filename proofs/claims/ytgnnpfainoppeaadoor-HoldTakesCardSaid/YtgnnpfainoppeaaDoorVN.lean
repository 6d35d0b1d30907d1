/- Lacks of the program. -/
import Derived.Test.YtgnnpfainoppeaaDoorVL
import Derived.Test.YtgnnpfainoppeaaDoorOwn
set_option linter.unusedVariables false
namespace Go.Proofs.YtgnnpfainoppeaaDoor.Ve
open Go.RowKit

abbrev Rg := Int × Int × Int
def cs3 : List Rg → List Value
  | [] => []
  | p :: r => .int .i64 p.1 :: .int .i64 p.2.1 :: .int .i64 p.2.2 :: cs3 r
theorem cs3_append : ∀ l m : List Rg, cs3 (l ++ m) = cs3 l ++ cs3 m
  | [], m => rfl
  | p :: r, m => by show _ :: _ :: _ :: cs3 (r ++ m) = _ :: _ :: _ :: (cs3 r ++ cs3 m); rw [cs3_append r m]
theorem cs3_one : ∀ (l : List Rg), ∀ u ∈ cs3 l, u.oneCell' = true
  | [], u, h => by cases h
  | p :: r, u, h => by
    rcases List.mem_cons.1 h with rfl | h
    · rfl
    · rcases List.mem_cons.1 h with rfl | h
      · rfl
      · rcases List.mem_cons.1 h with rfl | h
        · rfl
        · exact cs3_one r u h
theorem Tryd.info45 : (Tryd.prog.info? 70).map (fun i => (i.zero, i.size, i.bytes)) = some (some (.agg #[.int .i64 0, .int .i64 0, .int .i64 0]), 3, 24) := by kernel_rfl
theorem Tryd.u38 : Tryd.prog.underlying 56 = some (.slice 70) := by kernel_rfl
theorem info_parts {P : Program} {t : TypeId} {z : Option Value} {n b : Nat} (h : (P.info? t).map (fun i => (i.zero, i.size, i.bytes)) = some (z, n, b)) : ∃ i, P.info? t = some i ∧ i.zero = z ∧ i.size = n ∧ i.bytes = b := by
  cases hq : P.info? t with
  | none => rw [hq] at h; cases h
  | some i => rw [hq] at h; injection h with h; injection h with h1 h; injection h with h2 h3; exact ⟨i, rfl, h1, h2, h3⟩
theorem own_shape {w : World} {B e size n : Nat} {v : Value} {xs : List Value} (h : w.ownsRow B e size v n xs) : ∃ ao cap, v = .slice ao n cap := by
  rcases h.2 with ⟨rfl, rfl⟩ | ⟨g, cap, cur, rfl, _⟩
  · exact ⟨_, _, rfl⟩
  · exact ⟨_, _, rfl⟩
theorem own_less {w : World} {B B' e size n : Nat} {v : Value} {xs : List Value} (h : w.ownsRow B e size v n xs) (hB : B' ≤ B) : w.ownsRow B' e size v n xs := by
  refine ⟨h.1, ?_⟩
  rcases h.2 with h | ⟨g, cap, cur, e, hB2, rest⟩
  · exact .inl h
  · exact .inr ⟨g, cap, cur, e, by omega, rest⟩
def lackF (a b : List Int) : Nat → List Rg
  | 0 => []
  | i + 1 => lackF a b i ++ (if a.getD i 0 < b.getD i 0 then [((i : Int), wrap64 (a.getD i 0 + 1), b.getD i 0)] else [])
theorem getD_of {l : List Int} {i : Nat} {x : Int} (h : l[i]? = some x) : l.getD i 0 = x := by rw [List.getD_eq_getElem?_getD, h]; rfl
theorem src_rg (w : World) (p : Rg) : Src Tryd.prog 3 56 (.slice (some ⟨w.heap.size, 0, none⟩) 1 1) 1 (cs3 [p]) (w.alloc (.cells #[.int .i64 p.1, .int .i64 p.2.1, .int .i64 p.2.2] 70)) := by
  have hg := heap_alloc_new w (.cells #[.int .i64 p.1, .int .i64 p.2.1, .int .i64 p.2.2] 70)
  refine Src.ofSlice _ Tryd.u38 _ _ _ _ rfl ?_ (cs3_one _)
  intro j u hj
  rw [add_addr, Nat.zero_add, cell_of_row _ _ _ _ _ _ hg]
  match j, hj with
  | 0, hj => injection hj with hj; subst hj; rfl
  | 1, hj => injection hj with hj; subst hj; rfl
  | 2, hj => injection hj with hj; subst hj; rfl
  | j + 3, hj => simp [cs3] at hj

set_option maxRecDepth 100000 in
set_option maxHeartbeats 1600000 in
theorem lacks_any (w : World) (a b : List Int) (ha : a.length = 64) (hb : b.length = 64) :
    Calls Tryd.prog 23 #[vw a, vw b] w fun e w' => ∃ r, e = .returned r ∧ w'.ownsRow w.heap.size 70 3 r (lackF a b 64).length (cs3 (lackF a b 64)) ∧ Below w.heap.size w w' := by
  obtain ⟨i0, hi45, hz0, hz1, hz2⟩ := info_parts Tryd.info45
  have X := Lib.hid (boxes w (va a) (va b) 27)
  have LB := Lib.hid (load_va v24 _ (w.heap.size + 1) b hb X.out.2.2)
  have G := Lib.hid (va_get b)
  have hsz : (va b).size = 64 := by rw [va_size, hb]
  have HA := Lib.hid ha
  have HB := Lib.hid hb
  have HU := Lib.hid (show vw a = .agg (va a) from rfl)
  have HV := Lib.hid (show vw b = .agg (va b) from rfl)
  have HZ := Lib.hid (show ((w.alloc (.cells (va a) 27)).alloc (.cells (va b) 27)).heap.size = w.heap.size + 1 + 1 by simp)
  generalize hW : (w.alloc (.cells (va a) 27)).alloc (.cells (va b) 27) = W0 at *
  have HW := Lib.hid hW
  clear hW ha hb
  rw [HU.out, HV.out]
  generalize va b = B at *
  obtain ⟨A, hA⟩ : ∃ A, va a = A := ⟨_, rfl⟩
  rw [hA] at HW ⊢
  have HAA := Lib.hid hA
  clear hA
  go_enter Tryd.func23, Tryd.ntmps23
  go_wp2_with (first | (rw [HW.out]; refine wpList_load_arr rfl (.tmp 3) 27 rfl _ _ rfl LB.out ?_))
  go_loopw [5, 9] (fun rv iv wr => ∃ (i : Nat) (cs : List Rg), iv = .int .i64 i ∧ i ≤ 64 ∧ cs.length ≤ i ∧ Hid (cs = lackF a b i ∧ wr.ownsRow (w.heap.size + 1 + 1) 70 3 rv cs.length (cs3 cs) ∧ Below W0.heap.size W0 wr)) (fun _ iv _ => 64 - (intOf iv).toNat)
  case atStart => exact ⟨0, [], rfl, Nat.zero_le _, Nat.zero_le _, Lib.hid ⟨rfl, World.ownsRow_nil _ _ _ _, Below.refl _ _⟩⟩
  case round =>
    obtain ⟨i, cs, rfl, hi, hcl, hI⟩ := hrel
    obtain ⟨ra, rc, rfl⟩ := own_shape hI.out.2.1
    by_cases hlt : i < 64
    · obtain ⟨y, hy⟩ := va_len b HB.out i hlt
      obtain ⟨x, hx⟩ := va_len a HA.out i hlt
      have IX := fun W => index_va W B hsz i hlt y (G.out i y hy)
      have g := cell_va ((hI.out.2.2.block _ (Array.getElem?_eq_some_iff.1 X.out.2.1).1).trans X.out.2.1) hx
      have HN := Lib.hid (show lackF a b (i + 1) = cs ++ (if x < y then [((i : Int), wrap64 (x + 1), y)] else []) by
        show lackF a b i ++ _ = _
        rw [hI.out.1, getD_of hx, getD_of hy])
      clear hx hy
      by_cases hxy : x < y
      · have HN2 := Lib.hid (show cs ++ [((i : Int), wrap64 (x + 1), y)] = lackF a b (i + 1) by rw [HN.out, if_pos hxy])
        have BAl := Lib.hid (hI.out.2.2.alloc hI.out.2.2.size (.cells #[.int .i64 (i : Int), .int .i64 (wrap64 (x + 1)), .int .i64 y] 70))
        have OAl := Lib.hid (hI.out.2.1.alloc (.cells #[.int .i64 (i : Int), .int .i64 (wrap64 (x + 1)), .int .i64 y] 70))
        have hsa : w.heap.size + 1 + 1 ≤ (wr.alloc (.cells #[.int .i64 (i : Int), .int .i64 (wrap64 (x + 1)), .int .i64 y] 70)).heap.size := by have := BAl.out.size; rw [HZ.out] at this; exact this
        have hlo : ∀ k, (Value.slice ra cs.length rc).ownBlock = some k → W0.heap.size ≤ k := fun k hk => by rw [HZ.out]; exact (hI.out.2.1.lt k hk).1
        have SR := Lib.hid (src_rg wr ((i : Int), wrap64 (x + 1), y))
        go_wp2_with (at_builtin; refine wpList_append_src_own rfl (.tmp 18) (.tmp 26) 56 56 rfl (w.heap.size + 1 + 1) 70 i0 (.agg #[.int .i64 0, .int .i64 0, .int .i64 0]) 3 24 Tryd.u38 hi45 hz0 hz1 hz2 rfl (by decide) (.slice ra cs.length rc) cs.length (cs3 cs) rfl OAl.out _ 1 (cs3 [((i : Int), wrap64 (x + 1), y)]) rfl SR.out (by unfold maxLen; omega) (by omega) hsa ?_; intro v3 w3 hown hgr hspr; have K := Lib.hid hown; have KB := Lib.hid (BAl.out.grown hgr BAl.out.size hlo); clear hown hgr hspr; obtain ⟨a3, c3, rfl⟩ := own_shape K.out)
        go_roundw
        case rel => exact ⟨i + 1, cs ++ [((i : Int), wrap64 (x + 1), y)], by go_num, by omega, by rw [List.length_append]; exact Nat.succ_le_succ hcl, Lib.hid ⟨HN2.out, by rw [cs3_append, List.length_append]; exact K.out, KB.out⟩⟩
        case measure => simp [intOf]; omega
      · have HN2 := Lib.hid (show cs = lackF a b (i + 1) by rw [HN.out, if_neg hxy, List.append_nil])
        go_wp2
        go_roundw
        case rel => exact ⟨i + 1, cs, by go_num, by omega, by omega, Lib.hid ⟨HN2.out, hI.out.2.1, hI.out.2.2⟩⟩
        case measure => simp [intOf]; omega
    · have hi64 : i = 64 := by omega
      subst hi64
      go_wp2
      go_returns
      refine ⟨_, rfl, ?_⟩
      rw [← hI.out.1]
      exact ⟨own_less hI.out.2.1 (by omega), X.out.1.trans (hI.out.2.2.mono X.out.1.size)⟩
end Go.Proofs.YtgnnpfainoppeaaDoor.Ve

