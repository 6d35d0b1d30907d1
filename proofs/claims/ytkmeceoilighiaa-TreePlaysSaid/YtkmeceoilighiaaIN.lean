/- slices.Insert of one element of k cells into a row that the tree owns: at the end, in place, or into a new row. -/
import Derived.Test.YtkmeceoilighiaaTOwn
import Derived.Test.YtkmeceoilighiaaProg
import Derived.Lib.Overlaps
import Derived.Lib.AppendZeros
import Derived.Lib.JoinLaws
import Derived.Laws.Externs
import Derived.Laws.IdiomCopy
import Derived.Laws.CopyRow
import Derived.Deep.RegionLaw
import Derived.Shelf.RegionOpenPlain
import Derived.Lib.Walk
import Derived.Lib.Hide
import Derived.Handy
import Derived.Lib.AppendZerosOnto
import Derived.Laws.NewBlocks
set_option linter.unusedVariables false
set_option linter.unusedSimpArgs false
set_option maxRecDepth 100000
namespace Go.Proofs.Ytkmeceoilighiaa
open Go.RowKit Go.Shelf Go.Lib
open Tb (Sprung)

section
variable {P : Program}
/-- A copy into a row that is known whole, of elements of k cells. -/
theorem run_copy_rowK (w : World) (dT sT ty elem : TypeId) (k g o dLen dCap : Nat) (a : Addr) (sLen sCap : Nat) (cur : Array Value) (t : TypeId) (cs : List Value)
    (hu : P.underlying dT = some (.slice elem)) (hs : (P.info? elem).map (·.size) = some k)
    (hg : w.heap[g]? = some (.cells cur t (0, 0))) (hn : cs.length = Nat.min sLen dLen * k)
    (hsrc : ∀ j v, cs[j]? = some v → w.cell? (a.add j) = some v) (hfit : o + cs.length ≤ cur.size) (h1 : ∀ v ∈ cs, v.oneCell' = true) :
    (Builtin.copy_ #[dT, sT] ty #[.slice (some ⟨g, o, none⟩) dLen dCap, .slice (some a) sLen sCap]).run P w =
      .ok (goInt (Nat.min sLen dLen)) (w.setRow g (cur.toList.take o ++ cs ++ cur.toList.drop (o + cs.length)).toArray) := by
  have hl := run_loadCells_list (P := P) w a cs hsrc
  rw [hn] at hl
  have hst := run_storeCells_at P g o t cs 0 cur w hg (by simpa using hfit) h1
  cases hq : P.info? elem with
  | none => simp [hq] at hs
  | some i =>
    have hi : i.size = k := by simpa [hq] using hs
    subst hi
    simp [Builtin.copy_, run_underlying hu, Builtin.lenOf, Builtin.firstCells, sizeOf, typeInfo, hq, hl, hst]
theorem wpList_copyK {w : World} {ops : Array Oper} {rest : List Oper} {o : Oper} {a : Act} {Q : Exit → Act → World → Prop} (hgd : o.guard = none) (d s : Operand) (t t' : TypeId)
    (ho : o.op = .call { callee := .builtin .copy, args := #[d, s], argTypes := #[t, t'] }) (v u : Value) (hd : a.eval d = v) (hs : a.eval s = u) {v' : Value} {w' : World}
    (hr : (Builtin.copy_ #[t, t'] o.type #[v, u]).run P w = .ok v' w') (h : wpList P ops Q rest (a.put o.dst v') w') : wpList P ops Q (o :: rest) a w :=
  wpList_plain hgd fun _ hK => by
    unfold Oper.wp execOp
    simp only [ho, resolve, invoke, builtin, Sem.run_bind, Sem.run_pure, Result.andThen_ok, List.map_toArray, List.map_cons, List.map_nil, hd, hs, hr]
    exact hK _ _ h
theorem step_copyK {ops : Array Oper} {o : Oper} {a : Act} {w : World} {K : Act → World → Prop} {Q : Exit → Act → World → Prop} {E : Prop}
    (hg : o.guard = none) (d x : Operand) (dT sT : TypeId) (hop : o.op = Op.call { callee := Callee.builtin Builtin.copy, args := #[d, x], argTypes := #[dT, sT] })
    (v u : Value) (hd : a.eval d = v) (hx : a.eval x = u) {v' : Value} {w' : World} (hr : (Builtin.copy_ #[dT, sT] o.type #[v, u]).run P w = .ok v' w') (hK : K (a.put o.dst v') w') :
    if Region.wanted o (yielded ops a.tmps) = true then Oper.wp P o a w K Q else E := by
  have hw : Region.wanted o (yielded ops a.tmps) = true := by simp [Region.wanted, hg]
  rw [if_pos hw]
  unfold Oper.wp
  simp only [execOp, hop, resolve, invoke, builtin, Sem.run_bind, Sem.run_pure, Result.andThen_ok, List.map_toArray, List.map_cons, List.map_nil, hd, hx, hr]
  exact hK
end
theorem info89 : (Try.prog.info? 89).map (fun i => (i.zero, i.size, i.bytes)) = some (some (.agg #[.int .i64 0, .int .i64 0, .int .i64 0, .int .i64 0, .int .i64 0, .int .i64 0, .int .i64 0, .string ⟨#[]⟩, .bool false, .bool false, .bool false, .int .i64 0, .int .i64 0, .string ⟨#[]⟩, .bool false]), 15, 128) := by kernel_rfl
theorem Try.u75 : Try.prog.underlying 75 = some (.slice 89) := by kernel_rfl
theorem size89 : (Try.prog.info? 89).map (·.size) = some 15 := by kernel_rfl
theorem run_size89 (w : World) : (Go.sizeOf 89).run Try.prog w = .ok 15 w := by
  obtain ⟨i, hi, _, h1, _⟩ := info_parts info89
  simp [sizeOf, typeInfo, hi, h1]
theorem overlaps_no (w : World) (vb o b o2 m vc lb cb : Nat) (ca cb' : Array Value) (ta tb : TypeId) (hne : vb ≠ b) (ha : w.heap[vb]? = some (.cells ca ta (0, 0))) (hb : w.heap[b]? = some (.cells cb' tb (0, 0))) (hz : cb'.size ≠ 0) :
    (callFunc 69 #[.slice (some ⟨vb, o, none⟩) m vc, .slice (some ⟨b, o2, none⟩) lb cb]).run Try.prog w = .ok (.value (.bool false)) w := by
  rw [run_callFunc_extern Try.func69 (by kernel_rfl) (by kernel_rfl) (by kernel_rfl) (e := Extern.SlicesOverlaps.overlaps #[75, 75] #[4]) (by kernel_rfl),
    Lib.run_overlaps_apart w 75 4 89 Try.u75 15 run_size89 ⟨vb, o, none⟩ ⟨b, o2, none⟩ m vc lb cb hne ta tb ca.size cb'.size (by simp [World.shape?, ha]) (by simp [World.shape?, hb]) hz (by simp [World.frozen?, ha]) (by simp [World.frozen?, ha])]
  rfl
theorem ins_rows {α : Type} (A D T st : List α) (m : Nat) (hm : st.length = m) (hD : m ≤ D.length) :
    (((A ++ D ++ T).take (A.length + m) ++ D ++ (A ++ D ++ T).drop (A.length + m + D.length)).take A.length ++ st ++ ((A ++ D ++ T).take (A.length + m) ++ D ++ (A ++ D ++ T).drop (A.length + m + D.length)).drop (A.length + m)) = A ++ st ++ D ++ (A ++ D ++ T).drop (A.length + m + D.length) := by
  have h1 : ((A ++ D ++ T).take (A.length + m)).length = A.length + m := by rw [List.length_take, List.length_append, List.length_append]; omega
  have h2 : ((A ++ D ++ T).take (A.length + m)).take A.length = A := by
    rw [List.take_take, Nat.min_eq_left (by omega), List.append_assoc, List.take_left]
  generalize (A ++ D ++ T).take (A.length + m) = X at *
  generalize (A ++ D ++ T).drop (A.length + m + D.length) = Y at *
  rw [List.append_assoc X D Y, List.take_append_of_le_length (by omega), h2, ← h1, List.drop_left, List.append_assoc]
  simp
theorem ins_rows2 {α : Type} (A Z D st : List α) (m : Nat) (hm : st.length = m) (X : List α) :
    (((A ++ Z).take A.length ++ st ++ (A ++ Z).drop (A.length + m)).take (A.length + m)) ++ D ++ X = A ++ st ++ D ++ X := by
  have e : (A ++ st).length = A.length + m := by rw [List.length_append, hm]
  rw [List.take_left, ← e, List.take_left]
set_option maxHeartbeats 3200000 in
theorem insert_end (w : World) (B : Nat) (v : Value) (n : Nat) (xs st : List Value) (hown : w.ownsRow B 89 15 v n xs) (hn : n < 1000000) (vb : Nat) (hv : w.heap[vb]? = some (.cells st.toArray 89 (0, 0))) (hst : st.length = 15)
    (h2 : ∀ u ∈ st, u.oneCell' = true) (hB : B ≤ w.heap.size) :
    Calls Try.prog 46 #[v, .int .i64 n, .slice (some ⟨vb, 0, none⟩) 1 1] w fun e w' => ∃ v', e = .returned v' ∧ w'.ownsRow B 89 15 v' (n + 1) (xs ++ st) ∧ w.grownBy w' v.ownBlock ∧ Sprung w v v' := by
  have hsrc : Src Try.prog 15 75 (.slice (some ⟨vb, 0, none⟩) 1 1) 1 st w := Src.ofSlice w Try.u75 ⟨vb, 0, none⟩ 1 1 st (by rw [hst]) (fun j u hj => by
    rw [Addr.add_lit, Nat.zero_add, cell_of_row _ _ _ _ _ _ hv]; simpa using hj) h2
  obtain ⟨i0, hi0, hz0, hs0, hb0⟩ := info_parts info89
  have HO := Lib.hid hown
  have HS := Lib.hid hsrc
  rcases hown.2 with ⟨rfl, rfl⟩ | ⟨g, cap, cur, rfl, hbg, hg, hnc, hcm, hcs, htake⟩
  · clear hown hsrc hv
    go_enter Try.func46, Try.ntmps46
    go_wp2_with (at_builtin; refine Tb.wpList_append_src_own rfl (.tmp 23) (.tmp 24) 75 75 rfl B 89 i0 _ 15 128 Try.u75 hi0 hz0 hs0 hb0 rfl (by decide) _ _ xs rfl HO.out _ 1 st rfl HS.out (by decide) (by decide) hB ?_; intro v' w' r1 r2 r3; have R1 := Lib.hid r1; have R2 := Lib.hid r2; have R3 := Lib.hid r3; clear r1 r2 r3)
    go_returns
    exact ⟨_, rfl, R1.out, R2.out, R3.out⟩
  · have hcm' : cap ≤ 9223372036854775807 := by unfold maxLen at hcm; omega
    clear hown hsrc hv hg hcs htake
    go_enter Try.func46, Try.ntmps46
    go_wp2_with (at_builtin; refine Tb.wpList_append_src_own rfl (.tmp 23) (.tmp 24) 75 75 rfl B 89 i0 _ 15 128 Try.u75 hi0 hz0 hs0 hb0 rfl (by decide) _ _ xs rfl HO.out _ 1 st rfl HS.out (by unfold maxLen; omega) (by omega) hB ?_; intro v' w' r1 r2 r3; have R1 := Lib.hid r1; have R2 := Lib.hid r2; have R3 := Lib.hid r3; clear r1 r2 r3)
    all_goals
      go_returns
      exact ⟨_, rfl, R1.out, R2.out, R3.out⟩
end Go.Proofs.Ytkmeceoilighiaa
