/- A member as sixty-five cells; a watch; is, of. -/
import Derived.Test.YtgemlkccdcbpdaaVZ
import Derived.Test.YtgemlkccdcbpdaaVF
import Derived.Test.YtgemlkccdcbpdaaVD
set_option linter.unusedVariables false
namespace Go.Proofs.Ytgemlkccdcbpdaa
open Go.RowKit

abbrev Mb := List Int × Int
def mc (m : Mb) : List Value := m.1.map (Value.int .i64) ++ [.int .i64 m.2]
def mz : Mb := (zs, 0)
def mrow (l : List Mb) : Array Value := (l.flatMap mc).toArray
theorem mc_len (m : Mb) (h : m.1.length = 64) : (mc m).length = 65 := by unfold mc; rw [List.length_append, List.length_map, h]; rfl
theorem mz_len : mz.1.length = 64 := zs_len
theorem mc_one (m : Mb) : ∀ v ∈ mc m, v.oneCell' = true := fun v h => by
  unfold mc at h
  rcases List.mem_append.1 h with h | h
  · obtain ⟨x, _, rfl⟩ := List.mem_map.1 h; rfl
  · rw [List.mem_singleton.1 h]; rfl
theorem s69 : (Try.prog.info? 69).map (·.size) = some 65 := by kernel_rfl
noncomputable def fs69 : Array Field := match Try.prog.underlying 69 with | some (.struct f) => f | _ => #[]
theorem und69 : Try.prog.underlying 69 = some (.struct fs69) := by kernel_rfl
theorem f69_0 : fs69[0]?.map (fun f => (f.offset, f.type)) = some (0, 34) := by kernel_rfl
theorem f69_1 : fs69[1]?.map (fun f => (f.offset, f.type)) = some (64, 3) := by kernel_rfl
theorem k69 : ∃ fs, Try.prog.underlying 69 = some (.struct fs) := ⟨_, und69⟩
theorem u34 : Try.prog.underlying 34 = some (.array 64 3) := by kernel_rfl
theorem u3 : Try.prog.underlying 3 = some (.int .i64) := by kernel_rfl
theorem size34 (W : World) : (sizeOf 34).run Try.prog W = .ok 64 W := by
  cases hq : Try.prog.info? 34 with
  | none => have := v34.2; rw [hq] at this; cases this
  | some j =>
    have hs : j.size = 64 := by have := v34.2; rw [hq] at this; simpa using this
    simp [sizeOf, typeInfo, hq, hs, go_sem]
theorem z69 : (Try.prog.info? 69).map (fun i => (i.zero, i.size)) = some (some (.agg (mc mz).toArray), 65) := by kernel_rfl
theorem load_m (W : World) (b o : Nat) (cs : List Value) (hl : cs.length = 65) (h : W.rangeAt b o cs) : (Instr.loadAt 69 (.pointer (some ⟨b, o, none⟩))).run Try.prog W = .ok (.agg cs.toArray) W := by
  obtain ⟨fs, hf⟩ := k69
  exact run_loadAt_mid W b o 69 cs _ h hf rfl (by rw [s69, hl])
theorem alloc_m (W : World) : (Instr.alloc 69 true (.tuple #[])).run Try.prog W = .ok (.pointer (some ⟨W.heap.size, 0, none⟩)) (W.alloc (.cells (mc mz).toArray 69)) := by
  have h := (zero_of_info z69).1 W
  unfold Instr.alloc
  rw [Sem.run_bind, h]
  simp [newVar, Value.cells, go_sem]
theorem store_m (W : World) (b : Nat) (old : Array Value) (hold : old.size = 65) (cs : List Value) (hl : cs.length = 65) (h1 : ∀ v ∈ cs, v.oneCell' = true) (h : W.heap[b]? = some (.cells old 69 (0, 0))) :
    (Instr.storeAt 69 (.pointer (some ⟨b, 0, none⟩)) (.agg cs.toArray)).run Try.prog W = .ok () (W.setRow b cs.toArray) := by
  have hs : cs.toArray.size = 65 := by rw [List.size_toArray, hl]
  have := run_storeVar_row (P := Try.prog) W b 69 69 old cs.toArray h (by rw [s69, hs]) (by rw [hold, hs]) (all_oneCell_toArray h1)
  simp only [Instr.storeAt, Instr.sureAddr, Sem.run_bind, Sem.run_pure, Result.andThen_ok, this]
theorem ret_m {fn : Func} {a b : Nat} {tmps : Array Value} {w : World} {cs : List Value} (hres : fn.results = #[.cell a 69]) (hl : cs.length = 65)
    (hv : tmps.getD a undef = .pointer (some ⟨b, 0, none⟩)) (hb : w.heap[b]? = some (.cells cs.toArray 69 (0, 0))) : (results fn tmps).run Try.prog w = .ok (.agg cs.toArray) w := by
  obtain ⟨fs, hf⟩ := k69
  have := run_loadVar_row (P := Try.prog) w b 69 69 cs.toArray (0, 0) _ hb hf rfl (by rw [s69, List.size_toArray, hl])
  have hv2 : tmps[a]?.getD undef = .pointer (some ⟨b, 0, none⟩) := by simpa using hv
  simp [results, hres, hv2, asAddr, this]
theorem build_m (W : World) : (Instr.build 69 #[]).run Try.prog W = .ok (.agg (mc mz).toArray) W := run_build W 69 #[] _ (by kernel_rfl)
theorem field_m0 (W : World) (m : Mb) (h : m.1.length = 64) : (Instr.field 69 (.agg (mc m).toArray) 0).run Try.prog W = .ok (.agg (va m.1)) W := by
  have hf := f69_0
  cases hq : fs69[0]? with
  | none => rw [hq] at hf; cases hf
  | some f =>
    rw [hq] at hf
    injection hf with hf
    injection hf with h1 h2
    have e : (List.take 64 (mc m)).toArray = va m.1 := by
      unfold mc va
      rw [List.take_left' (by rw [List.length_map, h])]
    simp [Instr.field, run_underlying und69, hq, h1, h2, part, isAgg, run_underlying u34, asAgg, go_sem, e]
theorem field_m1 (W : World) (m : Mb) (h : m.1.length = 64) : (Instr.field 69 (.agg (mc m).toArray) 1).run Try.prog W = .ok (.int .i64 m.2) W := by
  have hf := f69_1
  cases hq : fs69[1]? with
  | none => rw [hq] at hf; cases hf
  | some f =>
    rw [hq] at hf
    injection hf with hf
    injection hf with h1 h2
    have e : (mc m)[64]? = some (.int .i64 m.2) := by
      unfold mc
      rw [List.getElem?_append_right (by rw [List.length_map, h]; omega), List.length_map, h]
      rfl
    simp [Instr.field, run_underlying und69, hq, h1, h2, part, isAgg, run_underlying u3, asAgg, go_sem, e]
end Go.Proofs.Ytgemlkccdcbpdaa
