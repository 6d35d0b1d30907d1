/- The ends of disk's rows: acts, opened. -/
import Derived.Test.YtoddofcmdbifpaaDEnds
import Derived.Test.YtoddofcmdbifpaaDV
import Derived.ProofKit
import Derived.LaidMore
import Derived.OpenShut
import Derived.Stop.Joined
import Derived.SevenTiedAt
import Derived.Carry
import Derived.Lib.SmallJoins
import Derived.Deep.Slices
import Derived.Shelf.Vars
import Derived.Lay
set_option linter.unusedVariables false
namespace Go.Proofs.Ytoddofcmdbifpaa
open Go.ChangeShapes Go.WideShapes Go.ChangeAt Go.RowKit Go.Joins Go.Deep

theorem end_add (a : Addr) (i j : Nat) : (a.add i).add j = a.add (i + j) := by
  obtain ⟨g, o, s⟩ := a
  unfold Addr.add
  repeat' split
  all_goals simp_all
  all_goals omega
theorem end_addr (k o j : Nat) : (⟨k, o, none⟩ : Addr).add j = ⟨k, o + j, none⟩ := by
  unfold Addr.add
  repeat' split
  all_goals simp_all
theorem end_choose {α : Type} [Inhabited α] {n : Nat} {P : Nat → α → Prop} (h : ∀ i, i < n → ∃ a, P i a) : ∃ f : Nat → α, ∀ i, i < n → P i (f i) := by
  refine ⟨fun i => if h1 : i < n then Classical.choose (h i h1) else default, fun i hi => ?_⟩
  simp only [dif_pos hi]
  exact Classical.choose_spec (h i hi)
theorem field_at {fs : Array Field} {i o t : Nat} (h : fs[i]?.map (fun f => (f.offset, f.type)) = some (o, t)) : ∃ f, fs[i]? = some f ∧ f.offset = o ∧ f.type = t := by
  cases hf : fs[i]? with
  | none => rw [hf] at h; simp at h
  | some f => rw [hf] at h; simp at h; exact ⟨f, rfl, h.1, h.2⟩
set_option maxRecDepth 100000 in
/-- A slice that came in, its elements opened one by one. -/
theorem view_slice {H : Type} {enc : TypeId × Value → H} {W : World} {α : Type} [Inhabited α] {t e : TypeId} {size : Nat} (hu : Try.prog.underlying t = some (.slice e)) (hce : Try.prog.cellsOf e = size) (hs : 0 < size) (Q : α → Prop) (en : α → List Value)
    (op : ∀ {fuel : Nat} {cs : List Value} {x : DataW H × List MemPlace}, DataW.trod enc Try.prog W 0 (fun _ => true) true fuel e cs = some x → ∃ p, Q p ∧ cs = en p)
    {v : Value} {d : DataW H} {ps : List MemPlace} {b0 : Nat} {r : Reach} (hv : Value.okWide Try.prog W r b0 t v) (h : DataW.Trod enc Try.prog W 0 (fun _ => true) true t v d ps) :
    ∃ ao cap l, v = .slice ao l.length cap ∧ l.length ≤ cap ∧ cap ≤ maxLen ∧ (ao = none → l = [] ∧ cap = 0) ∧ (∀ b, ao = some b → l ≠ [] → ∃ g k, b = ⟨g, k, none⟩ ∧ g < W.heap.size ∧ ∀ (j : Nat) (p : α), l[j]? = some p → ∀ (i : Nat) (u : Value), (en p)[i]? = some u → W.cell? ⟨g, k + j * size + i, none⟩ = some u) ∧ ∀ p ∈ l, Q p := by
  obtain ⟨a0, len, cap, rfl⟩ := okWide_slice hu hv
  obtain ⟨fuel, hf⟩ := h
  rcases open_slice hu hf with ⟨hcs, hx⟩ | ⟨a, len', cap', m, n, D, Pl, hcs, _, hl, hm, hmm, hx, hel⟩
  · simp [Value.cells] at hcs
    obtain ⟨rfl, rfl, rfl⟩ := hcs
    exact ⟨none, 0, [], rfl, Nat.le_refl _, Nat.zero_le _, fun _ => ⟨rfl, rfl⟩, (fun b hb => by cases hb), (fun p hp => by cases hp)⟩
  · simp [Value.cells] at hcs
    obtain ⟨rfl, rfl, rfl⟩ := hcs
    simp only [if_true] at hmm
    subst hmm
    have each : ∀ i, i < len → ∃ p : α, Q p ∧ ∀ (r : Nat) (u : Value), (en p)[r]? = some u → W.cell? (a.add (i * size + r)) = some u := by
      intro i hi
      obtain ⟨cs', hc, ht⟩ := hel i (by omega)
      obtain ⟨p, hp, hcs⟩ := op ht
      rw [hce] at hc
      obtain ⟨_, hcl, hat⟩ := World.cells?_some hc
      refine ⟨p, hp, fun r u hr => ?_⟩
      have hrl : r < (en p).length := (List.getElem?_eq_some_iff.1 hr).1
      have hlen : cs'.length = size := by first | exact hcl | (rw [← hcl]) | simpa using hcl
      have := hat r (by rw [← hcs, hlen] at hrl; exact hrl)
      rw [end_add, hcs, hr] at this
      exact this
    obtain ⟨f, hf2⟩ := end_choose each
    have hlen : ((List.range len).map f).length = len := by simp
    refine ⟨some a, _, (List.range len).map f, by rw [hlen], by rw [hlen]; exact hl, hm, (fun e => by cases e), fun b hb hne => ?_, fun p hp => ?_⟩
    rotate_left 1
    · obtain ⟨i, hi, rfl⟩ := List.mem_map.1 hp
      exact (hf2 i (List.mem_range.1 hi)).1
    cases hb
    have hpos : 0 < len := by
      rcases Nat.eq_zero_or_pos len with h0 | h0
      · subst h0; exact absurd rfl hne
      · exact h0
    obtain ⟨g, off, spot⟩ := a
    have h00 : ∃ u, W.cell? (⟨g, off, spot⟩ : Addr) = some u := by
      obtain ⟨cs', hc, ht⟩ := hel 0 (by omega)
      rw [hce] at hc
      obtain ⟨_, hcl, hat⟩ := World.cells?_some hc
      have hlen2 : cs'.length = size := by first | exact hcl | (rw [← hcl]) | simpa using hcl
      have h0 := hat 0 (by omega)
      rw [end_add] at h0
      have hz : (⟨g, off, spot⟩ : Addr).add (0 * size + 0) = ⟨g, off, spot⟩ := by simp [Addr.add]; try (cases spot <;> simp)
      rw [hz] at h0
      exact ⟨_, h0.trans (List.getElem?_eq_getElem (by omega))⟩
    obtain ⟨u00, h00⟩ := h00
    have hspot : spot = none := by simpa using World.cell?_spot h00
    subst hspot
    have hgl : g < W.heap.size := by simpa using World.block_lt_of_cell? W _ h00
    refine ⟨g, off, rfl, hgl, fun j p hp i u hi => ?_⟩
    have hil : j < len := by
      have := (List.getElem?_eq_some_iff.1 hp).1
      rwa [hlen] at this
    have hfp : f j = p := by simpa [hil] using hp
    have q := (hf2 j hil).2 i u (by rw [hfp]; exact hi)
    rw [end_addr] at q
    rw [Nat.add_assoc]
    exact q
set_option maxRecDepth 100000 in
/-- A slice that lies in a cell, its elements opened one by one. -/
theorem view_cells {H : Type} {enc : TypeId × Value → H} {W : World} {α : Type} [Inhabited α] {t e : TypeId} {size : Nat} (hu : Try.prog.underlying t = some (.slice e)) (hce : Try.prog.cellsOf e = size) (hs : 0 < size) (Q : α → Prop) (en : α → List Value)
    (op : ∀ {fuel : Nat} {cs : List Value} {x : DataW H × List MemPlace}, DataW.trod enc Try.prog W 0 (fun _ => true) true fuel e cs = some x → ∃ p, Q p ∧ cs = en p)
    {fuel : Nat} {cs : List Value} {x : DataW H × List MemPlace} (hf : DataW.trod enc Try.prog W 0 (fun _ => true) true fuel t cs = some x) :
    ∃ ao cap l, cs = [.slice ao l.length cap] ∧ l.length ≤ cap ∧ cap ≤ maxLen ∧ (ao = none → l = [] ∧ cap = 0) ∧ (∀ b, ao = some b → l ≠ [] → ∃ g k, b = ⟨g, k, none⟩ ∧ g < W.heap.size ∧ ∀ (j : Nat) (p : α), l[j]? = some p → ∀ (i : Nat) (u : Value), (en p)[i]? = some u → W.cell? ⟨g, k + j * size + i, none⟩ = some u) ∧ ∀ p ∈ l, Q p := by
  rcases open_slice hu hf with ⟨hcs, hx⟩ | ⟨a, len, cap, m, n, D, Pl, hcs, _, hl, hm, hmm, hx, hel⟩
  · subst hcs
    exact ⟨none, 0, [], rfl, Nat.le_refl _, Nat.zero_le _, fun _ => ⟨rfl, rfl⟩, (fun b hb => by cases hb), (fun p hp => by cases hp)⟩
  · subst hcs
    simp only [if_true] at hmm
    subst hmm
    have each : ∀ i, i < len → ∃ p : α, Q p ∧ ∀ (r : Nat) (u : Value), (en p)[r]? = some u → W.cell? (a.add (i * size + r)) = some u := by
      intro i hi
      obtain ⟨cs', hc, ht⟩ := hel i (by omega)
      obtain ⟨p, hp, hcs⟩ := op ht
      rw [hce] at hc
      obtain ⟨_, hcl, hat⟩ := World.cells?_some hc
      refine ⟨p, hp, fun r u hr => ?_⟩
      have hrl : r < (en p).length := (List.getElem?_eq_some_iff.1 hr).1
      have hlen : cs'.length = size := by first | exact hcl | (rw [← hcl]) | simpa using hcl
      have := hat r (by rw [← hcs, hlen] at hrl; exact hrl)
      rw [end_add, hcs, hr] at this
      exact this
    obtain ⟨f, hf2⟩ := end_choose each
    have hlen : ((List.range len).map f).length = len := by simp
    refine ⟨some a, _, (List.range len).map f, by rw [hlen], by rw [hlen]; exact hl, hm, (fun e => by cases e), fun b hb hne => ?_, fun p hp => ?_⟩
    rotate_left 1
    · obtain ⟨i, hi, rfl⟩ := List.mem_map.1 hp
      exact (hf2 i (List.mem_range.1 hi)).1
    cases hb
    have hpos : 0 < len := by
      rcases Nat.eq_zero_or_pos len with h0 | h0
      · subst h0; exact absurd rfl hne
      · exact h0
    obtain ⟨g, off, spot⟩ := a
    have h00 : ∃ u, W.cell? (⟨g, off, spot⟩ : Addr) = some u := by
      obtain ⟨cs', hc, ht⟩ := hel 0 (by omega)
      rw [hce] at hc
      obtain ⟨_, hcl, hat⟩ := World.cells?_some hc
      have hlen2 : cs'.length = size := by first | exact hcl | (rw [← hcl]) | simpa using hcl
      have h0 := hat 0 (by omega)
      rw [end_add] at h0
      have hz : (⟨g, off, spot⟩ : Addr).add (0 * size + 0) = ⟨g, off, spot⟩ := by simp [Addr.add]; try (cases spot <;> simp)
      rw [hz] at h0
      exact ⟨_, h0.trans (List.getElem?_eq_getElem (by omega))⟩
    obtain ⟨u00, h00⟩ := h00
    have hspot : spot = none := by simpa using World.cell?_spot h00
    subst hspot
    have hgl : g < W.heap.size := by simpa using World.block_lt_of_cell? W _ h00
    refine ⟨g, off, rfl, hgl, fun j p hp i u hi => ?_⟩
    have hil : j < len := by
      have := (List.getElem?_eq_some_iff.1 hp).1
      rwa [hlen] at this
    have hfp : f j = p := by simpa [hil] using hp
    have q := (hf2 j hil).2 i u (by rw [hfp]; exact hi)
    rw [end_addr] at q
    rw [Nat.add_assoc]
    exact q
theorem open_u8s {H : Type} {enc : TypeId × Value → H} {W : World} {fuel : Nat} {cs : List Value} {x : DataW H × List MemPlace} (h : DataW.trod enc Try.prog W 0 (fun _ => true) true fuel 33 cs = some x) :
    ∃ ao cap l, LiesK encB 1 W (.slice ao l.length cap) l ∧ cs = [.slice ao l.length cap] := by
  obtain ⟨ao, cap, l, h1, h2, h3, h4, h5, h6⟩ := view_cells Try.u33 (show Try.prog.cellsOf 5 = 1 by kernel_rfl) (Nat.succ_pos _) (fun (_ : Int) => True) encB (fun h => by
    obtain ⟨a, ha, _, w⟩ := DataW.trod_int (show Try.prog.underlying 5 = some (.int .u8) by kernel_rfl) h
    exact ⟨a, trivial, ha⟩) h
  exact ⟨ao, cap, l, ⟨ao, cap, rfl, h2, h3, h4, h5⟩, h1⟩
theorem open_i64s {H : Type} {enc : TypeId × Value → H} {W : World} {fuel : Nat} {cs : List Value} {x : DataW H × List MemPlace} (h : DataW.trod enc Try.prog W 0 (fun _ => true) true fuel 34 cs = some x) :
    ∃ ao cap l, LiesK encN 1 W (.slice ao l.length cap) l ∧ cs = [.slice ao l.length cap] := by
  obtain ⟨ao, cap, l, h1, h2, h3, h4, h5, h6⟩ := view_cells (show Try.prog.underlying 34 = some (.slice 3) by kernel_rfl) (show Try.prog.cellsOf 3 = 1 by kernel_rfl) (Nat.succ_pos _) (fun (_ : Int) => True) encN (fun h => by
    obtain ⟨a, ha, _, w⟩ := DataW.trod_int (show Try.prog.underlying 3 = some (.int .i64) by kernel_rfl) h
    exact ⟨a, trivial, ha⟩) h
  exact ⟨ao, cap, l, ⟨ao, cap, rfl, h2, h3, h4, h5⟩, h1⟩
noncomputable def fs36 : Array Field := match Try.prog.underlying 36 with | some (.struct f) => f | _ => #[]
theorem und36 : Try.prog.underlying 36 = some (.struct fs36) := by kernel_rfl
theorem cel36 : Try.prog.cellsOf 36 = 6 := by kernel_rfl
theorem f36_0 : fs36[0]?.map (fun f => (f.offset, f.type)) = some (0, 3) := by kernel_rfl
theorem f36_1 : fs36[1]?.map (fun f => (f.offset, f.type)) = some (1, 5) := by kernel_rfl
theorem f36_2 : fs36[2]?.map (fun f => (f.offset, f.type)) = some (2, 5) := by kernel_rfl
theorem f36_3 : fs36[3]?.map (fun f => (f.offset, f.type)) = some (3, 3) := by kernel_rfl
theorem f36_4 : fs36[4]?.map (fun f => (f.offset, f.type)) = some (4, 33) := by kernel_rfl
theorem f36_5 : fs36[5]?.map (fun f => (f.offset, f.type)) = some (5, 34) := by kernel_rfl
set_option maxRecDepth 100000 in
theorem open_act {H : Type} {enc : TypeId × Value → H} {W : World} {fuel : Nat} {cs : List Value} {x : DataW H × List MemPlace} (h : DataW.trod enc Try.prog W 0 (fun _ => true) true fuel 36 cs = some x) :
    ∃ p : Ac, AcOk W p ∧ cs = enc6 p := by
  obtain ⟨xs, n, _, _, hlen, hxl, hf⟩ := DataW.trod_struct und36 h
  rw [cel36] at hlen
  match cs, hlen with
  | [u0, u1, u2, u3, u4, u5], _ =>
    obtain ⟨g0, e0, o0, t0⟩ := field_at f36_0
    have k0 := hf 0 g0 e0
    obtain ⟨g1, e1, o1, t1⟩ := field_at f36_1
    have k1 := hf 1 g1 e1
    obtain ⟨g2, e2, o2, t2⟩ := field_at f36_2
    have k2 := hf 2 g2 e2
    obtain ⟨g3, e3, o3, t3⟩ := field_at f36_3
    have k3 := hf 3 g3 e3
    obtain ⟨g4, e4, o4, t4⟩ := field_at f36_4
    have k4 := hf 4 g4 e4
    obtain ⟨g5, e5, o5, t5⟩ := field_at f36_5
    have k5 := hf 5 g5 e5
    have hs : xs.length = 6 := by rw [hxl]; kernel_rfl
    rw [o0, t0, (show Try.prog.cellsOf 3 = 1 by kernel_rfl), List.getElem?_eq_getElem (by omega)] at k0
    obtain ⟨a0, ha0, _, w0⟩ := DataW.trod_int (show Try.prog.underlying 3 = some (.int .i64) by kernel_rfl) k0
    simp at ha0
    rw [o1, t1, (show Try.prog.cellsOf 5 = 1 by kernel_rfl), List.getElem?_eq_getElem (by omega)] at k1
    obtain ⟨a1, ha1, _, w1⟩ := DataW.trod_int (show Try.prog.underlying 5 = some (.int .u8) by kernel_rfl) k1
    simp at ha1
    rw [o2, t2, (show Try.prog.cellsOf 5 = 1 by kernel_rfl), List.getElem?_eq_getElem (by omega)] at k2
    obtain ⟨a2, ha2, _, w2⟩ := DataW.trod_int (show Try.prog.underlying 5 = some (.int .u8) by kernel_rfl) k2
    simp at ha2
    rw [o3, t3, (show Try.prog.cellsOf 3 = 1 by kernel_rfl), List.getElem?_eq_getElem (by omega)] at k3
    obtain ⟨a3, ha3, _, w3⟩ := DataW.trod_int (show Try.prog.underlying 3 = some (.int .i64) by kernel_rfl) k3
    simp at ha3
    rw [o4, t4, (show Try.prog.cellsOf 33 = 1 by kernel_rfl), List.getElem?_eq_getElem (by omega)] at k4
    obtain ⟨b1, b2, b3, hb, ha4⟩ := open_u8s k4
    simp at ha4
    rw [o5, t5, (show Try.prog.cellsOf 34 = 1 by kernel_rfl), List.getElem?_eq_getElem (by omega)] at k5
    obtain ⟨d1, d2, d3, hd, ha5⟩ := open_i64s k5
    simp at ha5
    simp [Lit.wf, IntKind.min, IntKind.max, IntKind.bits, IntKind.signed] at w3
    exact ⟨⟨a0, a1, a2, a3, b1, b2, b3, d1, d2, d3⟩, ⟨hb, hd, by show -9223372036854775808 ≤ a3 ∧ a3 ≤ 9223372036854775807; omega⟩, by simp [enc6, *]⟩
theorem Try.u22 : Try.prog.underlying 22 = some (.slice 36) := by kernel_rfl
section
variable {H : Type} {enc : TypeId × Value → H} {W : World}
set_option maxRecDepth 100000 in
theorem view_acts {v : Value} {d : DataW H} {ps : List MemPlace} {b0 : Nat} {r : Reach} (hv : Value.okWide Try.prog W r b0 22 v) (h : DataW.Trod enc Try.prog W 0 (fun _ => true) true 22 v d ps) :
    ∃ l, LiesK enc6 6 W v l ∧ ∀ x ∈ l, AcOk W x := by
  letI : Inhabited Ac := ⟨⟨0, 0, 0, 0, none, 0, [], none, 0, []⟩⟩
  obtain ⟨ao, cap, l, h1, h2, h3, h4, h5, h6⟩ := view_slice Try.u22 cel36 (Nat.succ_pos _) (fun (x : Ac) => AcOk W x) enc6 (fun h => open_act h) hv h
  exact ⟨l, ⟨ao, cap, h1, h2, h3, h4, h5⟩, h6⟩
end
end Go.Proofs.Ytoddofcmdbifpaa
