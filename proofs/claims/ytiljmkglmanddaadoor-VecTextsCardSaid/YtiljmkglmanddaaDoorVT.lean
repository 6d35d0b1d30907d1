/- Parse. -/
import Derived.Test.YtiljmkglmanddaaDoorVS
import Derived.Test.YtiljmkglmanddaaDoorVD
import Derived.Lib.SplitLaws
set_option linter.unusedVariables false
namespace Go.Proofs.YtiljmkglmanddaaDoor
open Go.RowKit

def parseF : List ByteArray → Nat → List Int → Option (List Int)
  | [], _, v => some v
  | s :: r, least, v => match knownP s with
    | some p => if p.1 < least ∨ 64 ≤ p.1 ∨ p.2 < 1 ∨ 4294967296 < p.2 then none else parseF r (p.1 + 1) (v.set p.1 (p.2 : Int))
    | none => none
def vparts (s : ByteArray) : List ByteArray := Lib.splitB ⟨#[32]⟩ 0 (Lib.countB s ⟨#[32]⟩) s
def parseR (s : ByteArray) : Option (List Int) := if s.size = 0 then some zs else parseF (vparts s) 0 zs
theorem ret_va2 {fn : Func} {a b t : Nat} {ty : TypeId} {tmps : Array Value} {w : World} {l : List Int} {u : Value} (hres : fn.results = #[.cell a ty, .tmp t]) (ht : V64 ty) (hl : l.length = 64)
    (hv : tmps.getD a undef = .pointer (some ⟨b, 0, none⟩)) (hu : tmps.getD t undef = u) (hb : w.heap[b]? = some (.cells (va l) ty (0, 0))) : (results fn tmps).run Tryd.prog w = .ok (.tuple #[vw l, u]) w := by
  have := loadVar_va ht w b l hl hb
  have hv2 : tmps[a]?.getD undef = .pointer (some ⟨b, 0, none⟩) := by simpa using hv
  have hu2 : tmps[t]?.getD undef = u := by simpa using hu
  simp [results, hres, hv2, hu2, asAddr, this]
theorem parseF_len : ∀ (l : List ByteArray) (n : Nat) (v u : List Int), v.length = 64 → parseF l n v = some u → u.length = 64
  | [], n, v, u, hv, h => by injection h with h; rw [← h]; exact hv
  | s :: r, n, v, u, hv, h => by
    unfold parseF at h
    split at h
    · split at h
      · cases h
      · exact parseF_len r _ _ u (by rw [List.length_set]; exact hv) h
    · cases h
theorem build_va (W : World) : (Instr.build 24 #[]).run Tryd.prog W = .ok (.agg (va zs)) W := by
  have h := (zero_of_info z24).1 W
  have ht : Tryd.prog.underlying 24 = some (.array 64 3) := by kernel_rfl
  unfold Instr.build
  rw [Sem.run_bind, h]
  simp [run_underlying ht, Instr.fill, vw, Value.cells, Sem.run_bind]
theorem wpList_build_arr {P : Program} {w : World} {ops : Array Oper} {rest : List Oper} {o : Oper} {a : Act} {Q : Exit → Act → World → Prop} (hgd : o.guard = none) (ty : TypeId)
    (ho : o.op = .build ty #[]) (u : Value) (hr : (Instr.build ty #[]).run P w = .ok u w)
    (h : wpList P ops Q rest (a.put o.dst u) w) : wpList P ops Q (o :: rest) a w :=
  wpList_plain hgd fun _ hK => by
    unfold Oper.wp execOp
    simp only [ho, List.map_toArray, List.map_nil, hr, Sem.run_bind, Sem.run_pure, Result.andThen_ok]
    exact hK _ _ h
theorem parts_size (sep : ByteArray) : ∀ (k : Nat) (s x : ByteArray), x ∈ Lib.splitB sep 0 k s → x.size ≤ s.size
  | 0, s, x, h => by rw [List.mem_singleton.1 h]; exact Nat.le_refl _
  | k + 1, s, x, h => by
    unfold Lib.splitB at h
    split at h
    · rw [List.mem_singleton.1 h]; exact Nat.le_refl _
    · rcases List.mem_cons.1 h with rfl | h
      · simp only [ByteArray.size_extract]; omega
      · have := parts_size sep k _ x h
        simp only [ByteArray.size_extract] at this
        omega
end Go.Proofs.YtiljmkglmanddaaDoor
