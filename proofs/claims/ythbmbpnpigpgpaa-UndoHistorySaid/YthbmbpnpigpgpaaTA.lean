/- A table's map, by the rows that it holds, rising. -/
import Derived.Test.YthbmbpnpigpgpaaRows
import Derived.WalkKit
import Derived.OwnWalk
import Derived.Maps.OwnSet
import Derived.Maps.RangeWalk
import Derived.DeepKeys4
import Derived.KernelRfl
set_option linter.unusedVariables false
namespace Go.Proofs.Ythbmbpnpigpgpaa
open Go.RowKit Go.WideMaps Go.Maps

def I64 (x : Int) : Prop := -9223372036854775808 ≤ x ∧ x ≤ 9223372036854775807
/-- A row: a node's stamp, and its entry. -/
structure Rw where
  t : Int
  r : Int
  pt : Int
  pr : Int
  nm : ByteArray
  d : Bool
def Rw.ok (x : Rw) : Prop := I64 x.t ∧ I64 x.r ∧ I64 x.pt ∧ I64 x.pr
theorem Rw.ext' {p q : Rw} (h1 : p.t = q.t) (h2 : p.r = q.r) (h3 : p.pt = q.pt) (h4 : p.pr = q.pr) (h5 : p.nm = q.nm) (h6 : p.d = q.d) : p = q := by
  cases p; cases q; simp_all
abbrev sv (t r : Int) : Value := .agg #[.int .i64 t, .int .i64 r]
abbrev ev (pt pr : Int) (nm : ByteArray) (d : Bool) : Value := .agg #[.int .i64 pt, .int .i64 pr, .string nm, .bool d]
/-! ### the keys -/
theorem Try.laidOut0 : laidOutB Try.prog = true := by kernel_rfl
theorem Try.row24 : 61 < Try.prog.types.size := of_decide_eq_true (by kernel_rfl)
theorem Try.wide24 : (match Try.prog.underlying 61 with | some (.array _ _) | some (.struct _) => true | _ => false) = true := by kernel_rfl
set_option maxRecDepth 100000 in
theorem Try.law24 : KeyLaw Try.prog 61 := deep_law_laid Try.laidOut0 (m := 2) (by omega) Try.row24 (by kernel_rfl) Try.wide24
theorem Try.keyed : Keyed Try.prog 61 := Keyed.of_law Try.law24
noncomputable def fk : Array Field := match Try.prog.underlying 61 with | some (.struct f) => f | _ => #[]
theorem undk : Try.prog.underlying 61 = some (.struct fk) := by kernel_rfl
theorem fk_all : fk.all (·.name != "_") = true := by kernel_rfl
theorem fk_list : ∃ f g, fk.toList = [f, g] ∧ f.offset = 0 ∧ g.offset = 1 ∧ f.type = 3 ∧ g.type = 3 := by
  have h0 : fk[0]?.map (fun f => (f.offset, f.type)) = some (0, 3) := by kernel_rfl
  have h1 : fk[1]?.map (fun f => (f.offset, f.type)) = some (1, 3) := by kernel_rfl
  have hs : fk.size = 2 := by kernel_rfl
  match hl : fk.toList, (show fk.toList.length = 2 from hs) with
  | [f, g], _ =>
    rw [← Array.getElem?_toList, hl] at h0 h1
    simp at h0 h1
    exact ⟨f, g, rfl, h0.1, h1.1, h0.2, h1.2⟩
theorem celk : Try.prog.cellsOf 61 = 2 := by kernel_rfl
theorem cel3 : Try.prog.cellsOf 3 = 1 := by kernel_rfl
theorem keyTk : Try.prog.keyType 61 = true := by kernel_rfl
theorem sizek : ∃ m, Try.prog.types.size = m + 1 := ⟨Try.prog.types.size - 1, by have := Try.row24; omega⟩
theorem wf64 {x : Int} (h : I64 x) : (Lit.int .i64 x).wf = true := WalkArith.wf_i64 h
theorem key_some (t r : Int) (ht : I64 t) (hr : I64 r) : ∃ l, keyOf Try.prog 61 (sv t r) = some l := by
  obtain ⟨f, g, hl, o0, o1, t0, t1⟩ := fk_list
  obtain ⟨m, hm⟩ := sizek
  unfold keyOf
  rw [undk]
  have hf : (sv t r).formed Try.prog 61 = true := by
    unfold Value.formed
    rw [undk, celk]
    rfl
  simp only [keyTk, hf, Bool.and_self, if_true]
  rw [hm]
  unfold Program.keyLits
  rw [undk]
  have hc : (sv t r).cells.toList = [.int .i64 t, .int .i64 r] := rfl
  rw [hc]
  simp only [celk, List.length_cons, List.length_nil, fk_all, and_self, if_true, hl, List.mapM_cons, List.mapM_nil, o0, o1, t0, t1, cel3]
  unfold Program.keyLits
  simp [Try.underlying3, wf64 ht, wf64 hr]
noncomputable def KL (t r : Int) : Lit := (keyOf Try.prog 61 (sv t r)).getD (.bool false)
theorem kl_key {t r : Int} (ht : I64 t) (hr : I64 r) : keyOf Try.prog 61 (sv t r) = some (KL t r) := by
  obtain ⟨l, h⟩ := key_some t r ht hr
  unfold KL
  rw [h]
  rfl
theorem kl_inj {t r t' r' : Int} (ht : I64 t) (hr : I64 r) (ht' : I64 t') (hr' : I64 r') (h : KL t r = KL t' r') : t = t' ∧ r = r' := by
  have a := kl_key ht hr
  have b := kl_key ht' hr'
  rw [← h] at b
  have := Try.keyed.inj a b
  injection this with this
  simpa using this
set_option maxRecDepth 100000 in
theorem kl_lit {t r : Int} (ht : I64 t) (hr : I64 r) : WideAt.IsKeyLit (KL t r) := Try.keyed.key (kl_key ht hr)
end Go.Proofs.Ythbmbpnpigpgpaa

