/- Maps whose keys are two whole numbers, by what they tell of each key. Made by genfm15.py. -/
import Derived.Test.YtbeodechhneeeaaGreatDoorTB
import Derived.Test.YtbeodechhneeeaaGreatDoorDR
set_option linter.unusedVariables false
set_option linter.unusedSimpArgs false
set_option maxRecDepth 100000
namespace Go.Proofs.YtbeodechhneeeaaGreatDoor.Ms
open Go.RowKit Go.WideMaps Go.Maps Go.WideShapes Go.ChangeMaps
open Tb (I64 sv wf64 cel3)
theorem laidOut0 : laidOutB Tryz.prog = true := by kernel_rfl
theorem rowk : 31 < Tryz.prog.types.size := of_decide_eq_true (by kernel_rfl)
theorem widek : (match Tryz.prog.underlying 31 with | some (.array _ _) | some (.struct _) => true | _ => false) = true := by kernel_rfl
theorem lawk : KeyLaw Tryz.prog 31 := deep_law_laid laidOut0 (m := 2) (by omega) rowk (by kernel_rfl) widek
theorem keyed : Keyed Tryz.prog 31 := Keyed.of_law lawk
noncomputable def fk : Array Field := match Tryz.prog.underlying 31 with | some (.struct f) => f | _ => #[]
theorem undk : Tryz.prog.underlying 31 = some (.struct fk) := by kernel_rfl
theorem fk_all : fk.all (·.name != "_") = true := by kernel_rfl
theorem fk_list : ∃ f g, fk.toList = [f, g] ∧ f.offset = 0 ∧ g.offset = 1 ∧ f.type = 3 ∧ g.type = 3 := by
  have h0 : fk[0]?.map (fun f => (f.offset, f.type)) = some (0, 3) := by kernel_rfl
  have h1 : fk[1]?.map (fun f => (f.offset, f.type)) = some (1, 3) := by kernel_rfl
  have hs : fk.size = 2 := by kernel_rfl
  match hl : fk.toList, (show fk.toList.length = 2 from hs) with
  | [f, g], _ =>
    rw [← Array.getElem?_toList, hl] at h0 h1
    simp at h0 h1
    exact ⟨f, g, rfl, h0.1, h1.1, h0.2, h1.2⟩
theorem celk : Tryz.prog.cellsOf 31 = 2 := by kernel_rfl
theorem keyTk : Tryz.prog.keyType 31 = true := by kernel_rfl
theorem sizek : ∃ m, Tryz.prog.types.size = m + 1 := ⟨Tryz.prog.types.size - 1, by have := rowk; omega⟩
theorem key_some (t r : Int) (ht : I64 t) (hr : I64 r) : ∃ l, keyOf Tryz.prog 31 (sv t r) = some l := by
  obtain ⟨f, g, hl, o0, o1, t0, t1⟩ := fk_list
  obtain ⟨m, hm⟩ := sizek
  unfold keyOf
  rw [undk]
  have hf : (sv t r).formed Tryz.prog 31 = true := by
    unfold Value.formed
    rw [undk, celk]
    rfl
  simp only [keyTk, hf, Bool.and_self, if_true]
  rw [hm]
  unfold Program.keyLits
  rw [undk]
  have hc : (sv t r).cells.toList = [.int .i64 t, .int .i64 r] := rfl
  rw [hc]
  simp only [celk, List.length_cons, List.length_nil, fk_all, and_self, if_true, hl, List.mapM_cons, List.mapM_nil, o0, o1, t0, t1, cel3]
  unfold Program.keyLits
  simp [Tryz.underlying3, wf64 ht, wf64 hr]
noncomputable def KL (t r : Int) : Lit := (keyOf Tryz.prog 31 (sv t r)).getD (.bool false)
theorem kl_key {t r : Int} (ht : I64 t) (hr : I64 r) : keyOf Tryz.prog 31 (sv t r) = some (KL t r) := by
  obtain ⟨l, h⟩ := key_some t r ht hr
  unfold KL
  rw [h]
  rfl
theorem kl_inj {t r t' r' : Int} (ht : I64 t) (hr : I64 r) (ht' : I64 t') (hr' : I64 r') (h : KL t r = KL t' r') : t = t' ∧ r = r' := by
  have a := kl_key ht hr
  have b := kl_key ht' hr'
  rw [← h] at b
  have := keyed.inj a b
  injection this with this
  simpa using this
theorem kl_lit {t r : Int} (ht : I64 t) (hr : I64 r) : WideAt.IsKeyLit (KL t r) := keyed.key (kl_key ht hr)
abbrev RR := Value → Option (DataW Value × List MemPlace)
def heldR : RR := fun v => some (.held v, [])
abbrev PF := Int → Int → Option Value
def upd (f : PF) (t r : Int) (x : Value) : PF := fun a b => if a = t ∧ b = r then some x else f a b
/-- A map at block b of type mt, whose elements' zero is z: what it tells of each key; how many were put, at most. -/
def FM (z : Value) (w : World) (b n : Nat) (f : PF) : Prop := ∃ D : DataW Value, w.ownsMap Tryz.prog 31 heldR b n D ∧ ∀ t r, I64 t → I64 r → Maps.has D (KL t r) = (f t r).isSome ∧ D.atKey (KL t r) (.held z) = .held ((f t r).getD z)
variable {z : Value} {w w' : World} {b n : Nat} {f : PF}
theorem FM.made (w : World) : FM z (w.alloc (.map #[] 0)) w.heap.size 0 (fun _ _ => none) := ⟨_, World.ownsMap_made _ _ _ _, fun t r _ _ => ⟨rfl, rfl⟩⟩
theorem FM.lt (h : FM z w b n f) : b < w.heap.size := by obtain ⟨D, h, _⟩ := h; exact h.lt
theorem FM.grown {row : Option Nat} (h : FM z w b n f) (hg : w.grownBy w' row) (hne : some b ≠ row) : FM z w' b n f := by obtain ⟨D, h1, h2⟩ := h; exact ⟨D, h1.kept hg hne, h2⟩
theorem FM.step (h : FM z w b n f) (hb : Below w.heap.size w w') : FM z w' b n f :=
  h.grown (row := none) ⟨hb.os, hb.tape, hb.output, hb.size, fun k hk _ => hb.block k hk⟩ (by simp)
theorem FM.ismap (h : FM z w b n f) {c : Array Value} {T : TypeId} {q : Nat × Nat} : w.heap[b]? ≠ some (.cells c T q) := by
  obtain ⟨D, h1, _⟩ := h
  obtain ⟨es, k, hb', _⟩ := h1
  rw [hb']
  intro e
  cases e
theorem FM.look (h : FM z w b n f) {mt et : TypeId} (hm : Tryz.prog.underlying mt = some (.map 31 et)) (hz : ∀ w, (zeroValue et).run Tryz.prog w = .ok z w) {t r : Int} (ht : I64 t) (hr : I64 r) :
    (Instr.lookup mt (.map (some b)) (sv t r) true).run Tryz.prog w = .ok (.tuple #[(f t r).getD z, .bool (f t r).isSome]) w := by
  obtain ⟨D, h1, h2⟩ := h
  obtain ⟨q1, q2⟩ := h2 t r ht hr
  obtain ⟨v, ps, hrun, hv⟩ := h1.look_ok keyed hm (hz w) (zd := .held z) (zp := []) rfl (kl_key ht hr)
  have hv2 : DataW.held v = D.atKey (KL t r) (.held z) := by
    unfold heldR at hv
    injection hv with hv
    injection hv
  rw [q2] at hv2
  injection hv2 with hv2
  rw [hrun, q1, hv2]
theorem FM.put (h : FM z w b n f) {mt et : TypeId} (hm : Tryz.prog.underlying mt = some (.map 31 et)) (hn : n < maxLen) {t r : Int} (ht : I64 t) (hr : I64 r) (v : Value) :
    ∃ w', (Instr.mapUpdate mt (.map (some b)) (sv t r) v).run Tryz.prog w = .ok () w' ∧ FM z w' b (n + 1) (upd f t r v) ∧ w.grownBy w' (some b) := by
  obtain ⟨D, h1, h2⟩ := h
  obtain ⟨w', hrun, ho, hg⟩ := h1.update keyed hm hn (kl_key ht hr) (d := .held v) (ps := []) rfl
  refine ⟨w', hrun, ⟨_, ho, fun a c ha hc => ?_⟩, hg⟩
  unfold upd
  by_cases e : a = t ∧ c = r
  · rw [if_pos e, e.1, e.2]
    exact ⟨has_put_same h1.isMap (kl_lit ht hr) _, atKey_put_same h1.isMap (kl_lit ht hr) _ _⟩
  · rw [if_neg e]
    have hne : KL a c ≠ KL t r := fun q => e (kl_inj ha hc ht hr q)
    exact ⟨(has_put_other hne _).trans (h2 a c ha hc).1, (atKey_put_other hne _ _).trans (h2 a c ha hc).2⟩
end Go.Proofs.YtbeodechhneeeaaGreatDoor.Ms
namespace Go.Proofs.YtbeodechhneeeaaGreatDoor.Mn
open Go.RowKit Go.WideMaps Go.Maps Go.WideShapes Go.ChangeMaps
open Tb (I64 sv wf64 cel3)
theorem laidOut0 : laidOutB Tryz.prog = true := by kernel_rfl
theorem rowk : 90 < Tryz.prog.types.size := of_decide_eq_true (by kernel_rfl)
theorem widek : (match Tryz.prog.underlying 90 with | some (.array _ _) | some (.struct _) => true | _ => false) = true := by kernel_rfl
theorem lawk : KeyLaw Tryz.prog 90 := deep_law_laid laidOut0 (m := 2) (by omega) rowk (by kernel_rfl) widek
theorem keyed : Keyed Tryz.prog 90 := Keyed.of_law lawk
noncomputable def fk : Array Field := match Tryz.prog.underlying 90 with | some (.struct f) => f | _ => #[]
theorem undk : Tryz.prog.underlying 90 = some (.struct fk) := by kernel_rfl
theorem fk_all : fk.all (·.name != "_") = true := by kernel_rfl
theorem fk_list : ∃ f g, fk.toList = [f, g] ∧ f.offset = 0 ∧ g.offset = 1 ∧ f.type = 3 ∧ g.type = 3 := by
  have h0 : fk[0]?.map (fun f => (f.offset, f.type)) = some (0, 3) := by kernel_rfl
  have h1 : fk[1]?.map (fun f => (f.offset, f.type)) = some (1, 3) := by kernel_rfl
  have hs : fk.size = 2 := by kernel_rfl
  match hl : fk.toList, (show fk.toList.length = 2 from hs) with
  | [f, g], _ =>
    rw [← Array.getElem?_toList, hl] at h0 h1
    simp at h0 h1
    exact ⟨f, g, rfl, h0.1, h1.1, h0.2, h1.2⟩
theorem celk : Tryz.prog.cellsOf 90 = 2 := by kernel_rfl
theorem keyTk : Tryz.prog.keyType 90 = true := by kernel_rfl
theorem sizek : ∃ m, Tryz.prog.types.size = m + 1 := ⟨Tryz.prog.types.size - 1, by have := rowk; omega⟩
theorem key_some (t r : Int) (ht : I64 t) (hr : I64 r) : ∃ l, keyOf Tryz.prog 90 (sv t r) = some l := by
  obtain ⟨f, g, hl, o0, o1, t0, t1⟩ := fk_list
  obtain ⟨m, hm⟩ := sizek
  unfold keyOf
  rw [undk]
  have hf : (sv t r).formed Tryz.prog 90 = true := by
    unfold Value.formed
    rw [undk, celk]
    rfl
  simp only [keyTk, hf, Bool.and_self, if_true]
  rw [hm]
  unfold Program.keyLits
  rw [undk]
  have hc : (sv t r).cells.toList = [.int .i64 t, .int .i64 r] := rfl
  rw [hc]
  simp only [celk, List.length_cons, List.length_nil, fk_all, and_self, if_true, hl, List.mapM_cons, List.mapM_nil, o0, o1, t0, t1, cel3]
  unfold Program.keyLits
  simp [Tryz.underlying3, wf64 ht, wf64 hr]
noncomputable def KL (t r : Int) : Lit := (keyOf Tryz.prog 90 (sv t r)).getD (.bool false)
theorem kl_key {t r : Int} (ht : I64 t) (hr : I64 r) : keyOf Tryz.prog 90 (sv t r) = some (KL t r) := by
  obtain ⟨l, h⟩ := key_some t r ht hr
  unfold KL
  rw [h]
  rfl
theorem kl_inj {t r t' r' : Int} (ht : I64 t) (hr : I64 r) (ht' : I64 t') (hr' : I64 r') (h : KL t r = KL t' r') : t = t' ∧ r = r' := by
  have a := kl_key ht hr
  have b := kl_key ht' hr'
  rw [← h] at b
  have := keyed.inj a b
  injection this with this
  simpa using this
theorem kl_lit {t r : Int} (ht : I64 t) (hr : I64 r) : WideAt.IsKeyLit (KL t r) := keyed.key (kl_key ht hr)
abbrev RR := Value → Option (DataW Value × List MemPlace)
def heldR : RR := fun v => some (.held v, [])
abbrev PF := Int → Int → Option Value
def upd (f : PF) (t r : Int) (x : Value) : PF := fun a b => if a = t ∧ b = r then some x else f a b
/-- A map at block b of type mt, whose elements' zero is z: what it tells of each key; how many were put, at most. -/
def FM (z : Value) (w : World) (b n : Nat) (f : PF) : Prop := ∃ D : DataW Value, w.ownsMap Tryz.prog 90 heldR b n D ∧ ∀ t r, I64 t → I64 r → Maps.has D (KL t r) = (f t r).isSome ∧ D.atKey (KL t r) (.held z) = .held ((f t r).getD z)
variable {z : Value} {w w' : World} {b n : Nat} {f : PF}
theorem FM.made (w : World) : FM z (w.alloc (.map #[] 0)) w.heap.size 0 (fun _ _ => none) := ⟨_, World.ownsMap_made _ _ _ _, fun t r _ _ => ⟨rfl, rfl⟩⟩
theorem FM.lt (h : FM z w b n f) : b < w.heap.size := by obtain ⟨D, h, _⟩ := h; exact h.lt
theorem FM.grown {row : Option Nat} (h : FM z w b n f) (hg : w.grownBy w' row) (hne : some b ≠ row) : FM z w' b n f := by obtain ⟨D, h1, h2⟩ := h; exact ⟨D, h1.kept hg hne, h2⟩
theorem FM.step (h : FM z w b n f) (hb : Below w.heap.size w w') : FM z w' b n f :=
  h.grown (row := none) ⟨hb.os, hb.tape, hb.output, hb.size, fun k hk _ => hb.block k hk⟩ (by simp)
theorem FM.ismap (h : FM z w b n f) {c : Array Value} {T : TypeId} {q : Nat × Nat} : w.heap[b]? ≠ some (.cells c T q) := by
  obtain ⟨D, h1, _⟩ := h
  obtain ⟨es, k, hb', _⟩ := h1
  rw [hb']
  intro e
  cases e
theorem FM.look (h : FM z w b n f) {mt et : TypeId} (hm : Tryz.prog.underlying mt = some (.map 90 et)) (hz : ∀ w, (zeroValue et).run Tryz.prog w = .ok z w) {t r : Int} (ht : I64 t) (hr : I64 r) :
    (Instr.lookup mt (.map (some b)) (sv t r) true).run Tryz.prog w = .ok (.tuple #[(f t r).getD z, .bool (f t r).isSome]) w := by
  obtain ⟨D, h1, h2⟩ := h
  obtain ⟨q1, q2⟩ := h2 t r ht hr
  obtain ⟨v, ps, hrun, hv⟩ := h1.look_ok keyed hm (hz w) (zd := .held z) (zp := []) rfl (kl_key ht hr)
  have hv2 : DataW.held v = D.atKey (KL t r) (.held z) := by
    unfold heldR at hv
    injection hv with hv
    injection hv
  rw [q2] at hv2
  injection hv2 with hv2
  rw [hrun, q1, hv2]
theorem FM.put (h : FM z w b n f) {mt et : TypeId} (hm : Tryz.prog.underlying mt = some (.map 90 et)) (hn : n < maxLen) {t r : Int} (ht : I64 t) (hr : I64 r) (v : Value) :
    ∃ w', (Instr.mapUpdate mt (.map (some b)) (sv t r) v).run Tryz.prog w = .ok () w' ∧ FM z w' b (n + 1) (upd f t r v) ∧ w.grownBy w' (some b) := by
  obtain ⟨D, h1, h2⟩ := h
  obtain ⟨w', hrun, ho, hg⟩ := h1.update keyed hm hn (kl_key ht hr) (d := .held v) (ps := []) rfl
  refine ⟨w', hrun, ⟨_, ho, fun a c ha hc => ?_⟩, hg⟩
  unfold upd
  by_cases e : a = t ∧ c = r
  · rw [if_pos e, e.1, e.2]
    exact ⟨has_put_same h1.isMap (kl_lit ht hr) _, atKey_put_same h1.isMap (kl_lit ht hr) _ _⟩
  · rw [if_neg e]
    have hne : KL a c ≠ KL t r := fun q => e (kl_inj ha hc ht hr q)
    exact ⟨(has_put_other hne _).trans (h2 a c ha hc).1, (atKey_put_other hne _ _).trans (h2 a c ha hc).2⟩
end Go.Proofs.YtbeodechhneeeaaGreatDoor.Mn

