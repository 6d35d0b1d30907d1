/- The ends of hold's tied rows: the law's calls, opened. -/
import Derived.Test.YtgnnpfainoppeaaDoorHCard
import Derived.Test.YtgnnpfainoppeaaDoorHX
import Derived.ProofKit
import Derived.LaidMore
import Derived.OpenShut
import Derived.Stop.Joined
import Derived.SevenTiedAt
import Derived.Carry
import Derived.Lib.SmallJoins
import Derived.Deep.Slices
import Derived.Shelf.Vars
import Derived.Lay
set_option linter.unusedVariables false
namespace Go.Proofs.YtgnnpfainoppeaaDoor
open Go.ChangeShapes Go.WideShapes Go.ChangeAt Go.RowKit Go.Joins Go.Deep

open Ve (LiesO)
set_option maxRecDepth 100000 in
/-- A slice that lies in a cell, its elements opened one by one. -/
theorem view_cells {H : Type} {enc : TypeId × Value → H} {W : World} {α : Type} [Inhabited α] {t e : TypeId} {size : Nat} (hu : Tryd.prog.underlying t = some (.slice e)) (hce : Tryd.prog.cellsOf e = size) (hs : 0 < size) (Q : α → Prop) (en : α → List Value)
    (op : ∀ {fuel : Nat} {cs : List Value} {x : DataW H × List MemPlace}, DataW.trod enc Tryd.prog W 0 (fun _ => true) true fuel e cs = some x → ∃ p, Q p ∧ cs = en p)
    {fuel : Nat} {cs : List Value} {x : DataW H × List MemPlace} (hf : DataW.trod enc Tryd.prog W 0 (fun _ => true) true fuel t cs = some x) :
    ∃ ao cap l, cs = [.slice ao l.length cap] ∧ l.length ≤ cap ∧ cap ≤ maxLen ∧ (ao = none → l = [] ∧ cap = 0) ∧ (∀ b, ao = some b → l ≠ [] → ∃ g k, b = ⟨g, k, none⟩ ∧ g < W.heap.size ∧ ∀ (j : Nat) (p : α), l[j]? = some p → ∀ (i : Nat) (u : Value), (en p)[i]? = some u → W.cell? ⟨g, k + j * size + i, none⟩ = some u) ∧ ∀ p ∈ l, Q p := by
  rcases open_slice hu hf with ⟨hcs, hx⟩ | ⟨a, len, cap, m, n, D, Pl, hcs, _, hl, hm, hmm, hx, hel⟩
  · subst hcs
    exact ⟨none, 0, [], rfl, Nat.le_refl _, Nat.zero_le _, fun _ => ⟨rfl, rfl⟩, (fun b hb => by cases hb), (fun p hp => by cases hp)⟩
  · subst hcs
    simp only [if_true] at hmm
    subst hmm
    have each : ∀ i, i < len → ∃ p : α, Q p ∧ ∀ (r : Nat) (u : Value), (en p)[r]? = some u → W.cell? (a.add (i * size + r)) = some u := by
      intro i hi
      obtain ⟨cs', hc, ht⟩ := hel i (by omega)
      obtain ⟨p, hp, hcs⟩ := op ht
      rw [hce] at hc
      obtain ⟨_, hcl, hat⟩ := World.cells?_some hc
      refine ⟨p, hp, fun r u hr => ?_⟩
      have hrl : r < (en p).length := (List.getElem?_eq_some_iff.1 hr).1
      have hlen : cs'.length = size := by first | exact hcl | (rw [← hcl]) | simpa using hcl
      have := hat r (by rw [← hcs, hlen] at hrl; exact hrl)
      rw [end_add, hcs, hr] at this
      exact this
    obtain ⟨f, hf2⟩ := end_choose each
    have hlen : ((List.range len).map f).length = len := by simp
    refine ⟨some a, _, (List.range len).map f, by rw [hlen], by rw [hlen]; exact hl, hm, (fun e => by cases e), fun b hb hne => ?_, fun p hp => ?_⟩
    rotate_left 1
    · obtain ⟨i, hi, rfl⟩ := List.mem_map.1 hp
      exact (hf2 i (List.mem_range.1 hi)).1
    cases hb
    have hpos : 0 < len := by
      rcases Nat.eq_zero_or_pos len with h0 | h0
      · subst h0; exact absurd rfl hne
      · exact h0
    obtain ⟨g, off, spot⟩ := a
    have h00 : ∃ u, W.cell? (⟨g, off, spot⟩ : Addr) = some u := by
      obtain ⟨cs', hc, ht⟩ := hel 0 (by omega)
      rw [hce] at hc
      obtain ⟨_, hcl, hat⟩ := World.cells?_some hc
      have hlen2 : cs'.length = size := by first | exact hcl | (rw [← hcl]) | simpa using hcl
      have h0 := hat 0 (by omega)
      rw [end_add] at h0
      have hz : (⟨g, off, spot⟩ : Addr).add (0 * size + 0) = ⟨g, off, spot⟩ := by simp [Addr.add]; try (cases spot <;> simp)
      rw [hz] at h0
      exact ⟨_, h0.trans (List.getElem?_eq_getElem (by omega))⟩
    obtain ⟨u00, h00⟩ := h00
    have hspot : spot = none := by simpa using World.cell?_spot h00
    subst hspot
    have hgl : g < W.heap.size := by simpa using World.block_lt_of_cell? W _ h00
    refine ⟨g, off, rfl, hgl, fun j p hp i u hi => ?_⟩
    have hil : j < len := by
      have := (List.getElem?_eq_some_iff.1 hp).1
      rwa [hlen] at this
    have hfp : f j = p := by simpa [hil] using hp
    have q := (hf2 j hil).2 i u (by rw [hfp]; exact hi)
    rw [end_addr] at q
    rw [Nat.add_assoc]
    exact q
noncomputable def fs76 : Array Field := match Tryd.prog.underlying 76 with | some (.struct f) => f | _ => #[]
theorem und76 : Tryd.prog.underlying 76 = some (.struct fs76) := by kernel_rfl
theorem cel76 : Tryd.prog.cellsOf 76 = 2 := by kernel_rfl
theorem f76_0 : fs76[0]?.map (fun f => (f.offset, f.type)) = some (0, 5) := by kernel_rfl
theorem f76_1 : fs76[1]?.map (fun f => (f.offset, f.type)) = some (1, 3) := by kernel_rfl
def encP (p : Nat × Int) : List Value := [.int .u8 (p.1 : Int), .int .i64 p.2]
set_option maxRecDepth 100000 in
theorem open_pair {H : Type} {enc : TypeId × Value → H} {W : World} {base : Nat} {spare : Nat → Bool} {held : Bool} {fuel : Nat} {cs : List Value} {x : DataW H × List MemPlace} (h : DataW.trod enc Tryd.prog W base spare held fuel 76 cs = some x) :
    ∃ p : Nat × Int, p.1 < 256 ∧ cs = encP p := by
  obtain ⟨xs, n, _, _, hlen, hxl, hf⟩ := DataW.trod_struct und76 h
  rw [cel76] at hlen
  match cs, hlen with
  | [u0_, u1_], _ =>
    obtain ⟨g0, e0, o0, t0⟩ := field_at f76_0
    have k0 := hf 0 g0 e0
    obtain ⟨g1, e1, o1, t1⟩ := field_at f76_1
    have k1 := hf 1 g1 e1
    have hs : xs.length = 2 := by rw [hxl]; kernel_rfl
    rw [o0, t0, (show Tryd.prog.cellsOf 5 = 1 by kernel_rfl), List.getElem?_eq_getElem (by omega)] at k0
    obtain ⟨a0, ha0, _, w0⟩ := DataW.trod_int (show Tryd.prog.underlying 5 = some (.int .u8) by kernel_rfl) k0
    simp at ha0
    rw [o1, t1, (show Tryd.prog.cellsOf 3 = 1 by kernel_rfl), List.getElem?_eq_getElem (by omega)] at k1
    obtain ⟨a1, ha1, _, w1⟩ := DataW.trod_int (show Tryd.prog.underlying 3 = some (.int .i64) by kernel_rfl) k1
    simp at ha1
    have hr : 0 ≤ a0 ∧ a0 < 256 := by
      have h := w0
      simp [Lit.wf, IntKind.min, IntKind.max, IntKind.bits, IntKind.signed] at h
      omega
    refine ⟨(a0.toNat, a1), by show a0.toNat < 256; omega, ?_⟩
    unfold encP
    rw [Int.toNat_of_nonneg hr.1]
    simp [*]
theorem u22 : Tryd.prog.underlying 22 = some (.slice 76) := by kernel_rfl
theorem open_ones {H : Type} {enc : TypeId × Value → H} {W : World} {fuel : Nat} {cs : List Value} {x : DataW H × List MemPlace} (h : DataW.trod enc Tryd.prog W 0 (fun _ => true) true fuel 22 cs = some x) :
    ∃ ao n c l, LiesO W (.slice ao n c) l ∧ cs = [.slice ao n c] := by
  obtain ⟨ao, cap, l, h1, h2, h3, h4, h5, h6⟩ := view_cells u22 cel76 (Nat.succ_pos _) (fun (p : Nat × Int) => p.1 < 256) encP (fun h => open_pair h) h
  refine ⟨ao, l.length, cap, l, ⟨ao, cap, rfl, by unfold maxLen at h3; omega, fun e => (h4 e).1, fun b hb hne => ?_⟩, h1⟩
  obtain ⟨g, k, rfl, hg, hc⟩ := h5 b hb hne
  refine ⟨g, k, rfl, hg, fun j p hj => ⟨h6 p (List.mem_of_getElem? hj), hc j p hj 0 _ rfl, hc j p hj 1 _ rfl⟩⟩
noncomputable def fs42 : Array Field := match Tryd.prog.underlying 42 with | some (.struct f) => f | _ => #[]
theorem und42 : Tryd.prog.underlying 42 = some (.struct fs42) := by kernel_rfl
theorem cel42 : Tryd.prog.cellsOf 42 = 11 := by kernel_rfl
theorem f42_0 : fs42[0]?.map (fun f => (f.offset, f.type)) = some (0, 3) := by kernel_rfl
theorem f42_1 : fs42[1]?.map (fun f => (f.offset, f.type)) = some (1, 40) := by kernel_rfl
theorem f42_2 : fs42[2]?.map (fun f => (f.offset, f.type)) = some (10, 22) := by kernel_rfl
noncomputable instance : Inhabited Ac := ⟨⟨0, O0, none, 0, 0, []⟩⟩
set_option maxRecDepth 100000 in
theorem open_ac {H : Type} {enc : TypeId × Value → H} {W : World} {fuel : Nat} {cs : List Value} {x : DataW H × List MemPlace} (h : DataW.trod enc Tryd.prog W 0 (fun _ => true) true fuel 42 cs = some x) :
    ∃ p : Ac, (LiesO W p.v p.vl ∧ Fit p.o) ∧ cs = acC p := by
  obtain ⟨xs, n, _, _, hlen, hxl, hf⟩ := DataW.trod_struct und42 h
  rw [cel42] at hlen
  match cs, hlen with
  | [u0_, u1_, u2_, u3_, u4_, u5_, u6_, u7_, u8_, u9_, u10_], _ =>
    obtain ⟨g0, e0, o0, t0⟩ := field_at f42_0
    have k0 := hf 0 g0 e0
    obtain ⟨g1, e1, o1, t1⟩ := field_at f42_1
    have k1 := hf 1 g1 e1
    obtain ⟨g2, e2, o2, t2⟩ := field_at f42_2
    have k2 := hf 2 g2 e2
    have hs : xs.length = 3 := by rw [hxl]; kernel_rfl
    rw [o0, t0, (show Tryd.prog.cellsOf 3 = 1 by kernel_rfl), List.getElem?_eq_getElem (by omega)] at k0
    obtain ⟨a0, ha0, _, w0⟩ := DataW.trod_int (show Tryd.prog.underlying 3 = some (.int .i64) by kernel_rfl) k0
    simp at ha0
    rw [o1, t1, cel25, List.getElem?_eq_getElem (by omega)] at k1
    obtain ⟨a1, w1, ha1⟩ := open_op k1
    simp at ha1
    rw [o2, t2, (show Tryd.prog.cellsOf 22 = 1 by kernel_rfl), List.getElem?_eq_getElem (by omega)] at k2
    obtain ⟨ao, n2, c2, l2, hl2, ha2⟩ := open_ones k2
    simp at ha2
    refine ⟨⟨a0, a1, ao, n2, c2, l2⟩, ⟨hl2, w1⟩, ?_⟩
    unfold acC Ac.v
    rw [← ha1, ← ha2, ← ha0]
    rfl
section
variable {H : Type} {enc : TypeId × Value → H} {W : World}
set_option maxRecDepth 100000 in
theorem view_acts {v : Value} {d : DataW H} {ps : List MemPlace} {b0 : Nat} {r : Reach} (hv : Value.okWide Tryd.prog W r b0 23 v) (h : DataW.Trod enc Tryd.prog W 0 (fun _ => true) true 23 v d ps) :
    ∃ l, ALies W v l ∧ ∀ p ∈ l, Fit p.o := by
  obtain ⟨ao, cap, l, h1, h2, h3, h4, h5, h6⟩ := view_slice (show Tryd.prog.underlying 23 = some (.slice 42) by kernel_rfl) cel42 (Nat.succ_pos _) (fun (p : Ac) => LiesO W p.v p.vl ∧ Fit p.o) acC (fun h => open_ac h) hv h
  exact ⟨l, ⟨ao, cap, h1, by unfold maxLen at h3; omega, fun e => (h4 e).1, h5, fun p hp => (h6 p hp).1⟩, fun p hp => (h6 p hp).2⟩
set_option maxRecDepth 100000 in
theorem view_byte {v : Value} {d : DataW H} {ps : List MemPlace} {b0 : Nat} {r : Reach} (hv : Value.okWide Tryd.prog W r b0 5 v) (h : DataW.Trod enc Tryd.prog W 0 (fun _ => true) true 5 v d ps) :
    ∃ n : Nat, v = .int .u8 (n : Int) ∧ n ≤ 255 := by
  obtain ⟨fuel, hf⟩ := h
  obtain ⟨a, ha, _, wa⟩ := DataW.trod_int (show Tryd.prog.underlying 5 = some (.int .u8) by kernel_rfl) hf
  have hv1 : ∃ n : Int, v = .int .u8 n := by
    obtain ⟨n, e⟩ := okWide_int (show Tryd.prog.underlying 5 = some (.int .u8) by kernel_rfl) hv
    exact ⟨n, e⟩
  obtain ⟨n, rfl⟩ := hv1
  have e : n = a := by simpa [Value.cells] using ha
  subst e
  have h := wa
  simp [Lit.wf, IntKind.min, IntKind.max, IntKind.bits, IntKind.signed] at h
  exact ⟨n.toNat, by rw [Int.toNat_of_nonneg (by omega)], by omega⟩
end
end Go.Proofs.YtgnnpfainoppeaaDoor
