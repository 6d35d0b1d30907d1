/- The rows' ends: arguments that lead to memory read behind the call as they did; a slice of bytes, and a slice of the law's calls, opened. -/
import Derived.Test.YtdocfoienbadhaaNI
import Derived.Test.YtdocfoienbadhaaRows
import Derived.ProofKit
import Derived.Lib.SmallJoins
import Derived.Carry
import Derived.ChangeSlices
import Derived.Deep.Slices
set_option linter.unusedVariables false
namespace Go.Proofs.Ytdocfoienbadhaa
open Go.ChangeShapes Go.WideShapes Go.ChangeAt Go.RowKit
open Go.Deep (open_slice)

theorem Try.own : ownKnob Try.prog.godebug = none := by kernel_rfl
theorem Try.laidOut : laidOutB Try.prog = true := by kernel_rfl
theorem Try.cells5 : Try.prog.cellsOf 5 = 1 := by kernel_rfl
theorem Try.und5 : Try.prog.underlying 5 = some (.int .u8) := by kernel_rfl
theorem Try.und3 : Try.prog.underlying 3 = some (.int .i64) := by kernel_rfl
theorem Try.und4 : Try.prog.underlying 4 = some .bool := by kernel_rfl
theorem Try.u22 : Try.prog.underlying 22 = some (.slice 34) := by kernel_rfl
section
variable {H : Type} {enc : TypeId × Value → H}
/-- What a law owes behind the call, when nothing of old has turned. -/
theorem post_read {f : Func} {s : ChangeSpec} {W W' : World} {args : Array Value} {v : Value} {ds gs : List (DataW H)} {ps pa pv pr : List MemPlace}
    (hW : DataW.Whole enc Try.prog f.params.toList s.vars false W args.toList ds gs ps) (hb : Below W.heap.size W W')
    (ha : DataW.TrodAll enc Try.prog W' 0 (fun b => decide (b < W.heap.size)) true f.params.toList args.toList (s.fn H (ds ++ gs)).args pa)
    (hg : DataW.TrodVars enc Try.prog W' (fun b => decide (b < W.heap.size)) s.vars (s.fn H (ds ++ gs)).vars pv)
    (hr : DataW.TrodAll enc Try.prog W' W.heap.size (fun _ => false) false f.resultTypes.toList (v.resultList f.resultTypes.size) (s.fn H (ds ++ gs)).results pr) :
    s.post enc Try.prog f false true false false W args v W' :=
  ⟨_, _, _, pr, pa, pv, hW, hr, ha, hg, hb.frame _, fun h => by cases h⟩
noncomputable def fs34 : Array Field := match Try.prog.underlying 34 with | some (.struct f) => f | _ => #[]
theorem und34 : Try.prog.underlying 34 = some (.struct fs34) := by kernel_rfl
theorem f34_0 : fs34[0]?.map (fun f => (f.offset, f.type)) = some (0, 3) := by kernel_rfl
theorem f34_1 : fs34[1]?.map (fun f => (f.offset, f.type)) = some (1, 3) := by kernel_rfl
theorem f34_2 : fs34[2]?.map (fun f => (f.offset, f.type)) = some (2, 3) := by kernel_rfl
theorem f34_3 : fs34[3]?.map (fun f => (f.offset, f.type)) = some (3, 3) := by kernel_rfl
theorem f34_4 : fs34[4]?.map (fun f => (f.offset, f.type)) = some (4, 32) := by kernel_rfl
noncomputable def fs32 : Array Field := match Try.prog.underlying 32 with | some (.struct f) => f | _ => #[]
theorem und32 : Try.prog.underlying 32 = some (.struct fs32) := by kernel_rfl
theorem f32_0 : fs32[0]?.map (fun f => (f.offset, f.type)) = some (0, 3) := by kernel_rfl
theorem f32_1 : fs32[1]?.map (fun f => (f.offset, f.type)) = some (1, 30) := by kernel_rfl
theorem f32_2 : fs32[2]?.map (fun f => (f.offset, f.type)) = some (2, 4) := by kernel_rfl
theorem c34 : Try.prog.cellsOf 34 = 7 := by kernel_rfl
theorem c32 : Try.prog.cellsOf 32 = 3 := by kernel_rfl
theorem c30 : Try.prog.cellsOf 30 = 1 := by kernel_rfl
theorem c3 : Try.prog.cellsOf 3 = 1 := by kernel_rfl
theorem c4 : Try.prog.cellsOf 4 = 1 := by kernel_rfl
variable {W : World}
theorem field_at {fs : Array Field} {i o t : Nat} (h : fs[i]?.map (fun f => (f.offset, f.type)) = some (o, t)) : ∃ f, fs[i]? = some f ∧ f.offset = o ∧ f.type = t := by
  cases hf : fs[i]? with
  | none => rw [hf] at h; simp at h
  | some f => rw [hf] at h; simp at h; exact ⟨f, rfl, h.1, h.2⟩
theorem add_add' (a : Addr) (i j : Nat) : (a.add i).add j = a.add (i + j) := by
  obtain ⟨g, o, s⟩ := a
  unfold Addr.add
  repeat' split
  all_goals simp_all
  all_goals omega
theorem choose_lt' {α : Type} [Inhabited α] {n : Nat} {P : Nat → α → Prop} (h : ∀ i, i < n → ∃ a, P i a) : ∃ f : Nat → α, ∀ i, i < n → P i (f i) := by
  refine ⟨fun i => if h1 : i < n then Classical.choose (h i h1) else default, fun i hi => ?_⟩
  simp only [dif_pos hi]
  exact Classical.choose_spec (h i hi)
theorem view_bytes {W : World} {v : Value} {d : DataW H} {ps : List MemPlace} {b0 : Nat} {r : Reach} (hv : Value.okWide Try.prog W r b0 30 v) (h : DataW.Trod enc Try.prog W 0 (fun _ => true) true 30 v d ps) :
    ∃ l, Lies W v l ∧ Byt l := by
  obtain ⟨a0, len, cap, rfl⟩ := okWide_slice Try.underlying30 hv
  obtain ⟨fuel, hf⟩ := h
  rcases open_ints Try.underlying30 Try.und5 Try.cells5 hf with ⟨hcs, hx⟩ | ⟨a, len', cap', zs, hcs, _, hl, hm, hz, hx, hcell, hwz⟩
  · simp [Value.cells] at hcs
    obtain ⟨rfl, rfl, rfl⟩ := hcs
    exact ⟨[], Lies.nil _, fun x hx => by cases hx⟩
  · simp [Value.cells] at hcs
    obtain ⟨rfl, rfl, rfl⟩ := hcs
    simp only [if_true] at hz
    have hb : ∀ n ∈ zs, 0 ≤ n ∧ n < 256 := fun n hn => by
      have := hwz n hn
      simp [Lit.wf, IntKind.min, IntKind.max, IntKind.bits, IntKind.signed] at this
      omega
    have hlen : ((zs.take len).map Int.toNat).length = len := by rw [List.length_map, List.length_take]; omega
    refine ⟨(zs.take len).map Int.toNat, ⟨some a, cap, by rw [hlen], by rw [hlen]; exact hl, hm, (fun e => by cases e), fun b hb2 hne => ?_⟩, fun x hx => ?_⟩
    · cases hb2
      have hpos : 0 < len := by
        rcases Nat.eq_zero_or_pos len with h0 | h0
        · subst h0; simp at hne
        · exact h0
      obtain ⟨g, off, spot⟩ := a
      have h00 := hcell 0 (by omega)
      have hspot : spot = none := by simpa [Addr.add] using World.cell?_spot h00
      subst hspot
      have hgl : g < W.heap.size := by simpa [add_addr] using World.block_lt_of_cell? W _ h00
      refine ⟨g, off, rfl, hgl, fun j x hj => ?_⟩
      have hj2 : j < len := by
        have := (List.getElem?_eq_some_iff.1 hj).1
        rwa [hlen] at this
      have h1 := hcell j (by omega)
      rw [add_addr] at h1
      rw [h1]
      rw [List.getElem?_map, List.getElem?_take, if_pos hj2, List.getElem?_eq_getElem (show j < zs.length by omega)] at hj
      injection hj with hj
      have h2 := hb zs[j] (List.getElem_mem _)
      rw [List.getD_eq_getElem?_getD, List.getElem?_eq_getElem (show j < zs.length by omega), Option.getD_some, ← hj, Int.toNat_of_nonneg h2.1]
    · obtain ⟨n, hn, rfl⟩ := List.mem_map.1 hx
      have := hb n (List.mem_of_mem_take hn)
      omega

theorem view_cells {W : World} {v : Value} {fuel : Nat} {y : DataW H × List MemPlace} (hf : DataW.trod enc Try.prog W 0 (fun _ => true) true fuel 30 [v] = some y) :
    ∃ l, Lies W v l ∧ Byt l := by
  rcases open_ints Try.underlying30 Try.und5 Try.cells5 hf with ⟨hcs, hx⟩ | ⟨a, len, cap, zs, hcs, _, hl, hm, hz, hx, hcell, hwz⟩
  · injection hcs with hcs _
    subst hcs
    exact ⟨[], Lies.nil _, fun x hx => by cases hx⟩
  · injection hcs with hcs _
    subst hcs
    simp only [if_true] at hz
    have hb : ∀ n ∈ zs, 0 ≤ n ∧ n < 256 := fun n hn => by
      have := hwz n hn
      simp [Lit.wf, IntKind.min, IntKind.max, IntKind.bits, IntKind.signed] at this
      omega
    have hlen : ((zs.take len).map Int.toNat).length = len := by rw [List.length_map, List.length_take]; omega
    refine ⟨(zs.take len).map Int.toNat, ⟨some a, cap, by rw [hlen], by rw [hlen]; exact hl, hm, (fun e => by cases e), fun b hb2 hne => ?_⟩, fun x hx => ?_⟩
    · cases hb2
      have hpos : 0 < len := by
        rcases Nat.eq_zero_or_pos len with h0 | h0
        · subst h0; simp at hne
        · exact h0
      obtain ⟨g, off, spot⟩ := a
      have h00 := hcell 0 (by omega)
      have hspot : spot = none := by simpa [Addr.add] using World.cell?_spot h00
      subst hspot
      have hgl : g < W.heap.size := by simpa [add_addr] using World.block_lt_of_cell? W _ h00
      refine ⟨g, off, rfl, hgl, fun j x hj => ?_⟩
      have hj2 : j < len := by
        have := (List.getElem?_eq_some_iff.1 hj).1
        rwa [hlen] at this
      have h1 := hcell j (by omega)
      rw [add_addr] at h1
      rw [h1]
      rw [List.getElem?_map, List.getElem?_take, if_pos hj2, List.getElem?_eq_getElem (show j < zs.length by omega)] at hj
      injection hj with hj
      have h2 := hb zs[j] (List.getElem_mem _)
      rw [List.getD_eq_getElem?_getD, List.getElem?_eq_getElem (show j < zs.length by omega), Option.getD_some, ← hj, Int.toNat_of_nonneg h2.1]
    · obtain ⟨n, hn, rfl⟩ := List.mem_map.1 hx
      have := hb n (List.mem_of_mem_take hn)
      omega
end
/-- A flight as the law is handed it; a call of the law's. -/
structure Af where
  dst : Int
  bv : Value
  bs : List Nat
  hurt : Bool
structure Ac where
  kind : Int
  k : Int
  m : Int
  b : Int
  f : Af
instance : Inhabited Ac := ⟨⟨0, 0, 0, 0, ⟨0, .bool false, [], false⟩⟩⟩
/-- A slice of calls. -/
def Acts (W : World) (v : Value) (l : List Ac) : Prop := ∃ ao cap, v = .slice ao l.length cap ∧ l.length ≤ 9223372036854775807 ∧
  ∀ (i : Nat) a, l[i]? = some a → ∃ g o, ao = some ⟨g, o, none⟩ ∧ g < W.heap.size ∧ W.cell? ⟨g, o + i * 7, none⟩ = some (.int .i64 a.kind) ∧ W.cell? ⟨g, o + i * 7 + 1, none⟩ = some (.int .i64 a.k) ∧
    W.cell? ⟨g, o + i * 7 + 2, none⟩ = some (.int .i64 a.m) ∧ W.cell? ⟨g, o + i * 7 + 3, none⟩ = some (.int .i64 a.b) ∧
    W.cell? ⟨g, o + i * 7 + 4, none⟩ = some (.int .i64 a.f.dst) ∧ W.cell? ⟨g, o + i * 7 + 5, none⟩ = some a.f.bv ∧ W.cell? ⟨g, o + i * 7 + 6, none⟩ = some (.bool a.f.hurt) ∧ Lies W a.f.bv a.f.bs ∧ Byt a.f.bs
section
variable {H : Type} {enc : TypeId × Value → H} {W : World}
set_option maxRecDepth 100000 in
theorem open_flight {fuel : Nat} {cs : List Value} {x : DataW H × List MemPlace} (h : DataW.trod enc Try.prog W 0 (fun _ => true) true fuel 32 cs = some x) :
    ∃ a : Af, cs = [.int .i64 a.dst, a.bv, .bool a.hurt] ∧ Lies W a.bv a.bs ∧ Byt a.bs := by
  obtain ⟨xs, n, _, _, hlen, hxl, hf⟩ := DataW.trod_struct und32 h
  rw [c32] at hlen
  match cs, hlen with
  | [u0, u1, u2], _ =>
    obtain ⟨g0, e0, o0, t0⟩ := field_at f32_0
    obtain ⟨g1, e1, o1, t1⟩ := field_at f32_1
    obtain ⟨g2, e2, o2, t2⟩ := field_at f32_2
    have k0 := hf 0 g0 e0
    have k1 := hf 1 g1 e1
    have k2 := hf 2 g2 e2
    have hs : xs.length = 3 := by rw [hxl]; kernel_rfl
    rw [o0, t0, c3] at k0
    rw [o1, t1, c30] at k1
    rw [o2, t2, c4] at k2
    rw [List.getElem?_eq_getElem (by omega)] at k0 k1 k2
    obtain ⟨a, ha, _, _⟩ := DataW.trod_int Try.und3 k0
    obtain ⟨l, hl, hb⟩ := view_cells (v := u1) k1
    obtain ⟨c, hc, _⟩ := DataW.trod_bool Try.und4 k2
    simp at ha hc
    subst ha; subst hc
    exact ⟨⟨a, u1, l, c⟩, rfl, hl, hb⟩
set_option maxRecDepth 100000 in
theorem open_act {fuel : Nat} {cs : List Value} {x : DataW H × List MemPlace} (h : DataW.trod enc Try.prog W 0 (fun _ => true) true fuel 34 cs = some x) :
    ∃ a : Ac, cs = [.int .i64 a.kind, .int .i64 a.k, .int .i64 a.m, .int .i64 a.b, .int .i64 a.f.dst, a.f.bv, .bool a.f.hurt] ∧ Lies W a.f.bv a.f.bs ∧ Byt a.f.bs := by
  obtain ⟨xs, n, _, _, hlen, hxl, hf⟩ := DataW.trod_struct und34 h
  rw [c34] at hlen
  match cs, hlen with
  | [u0, u1, u2, u3, u4, u5, u6], _ =>
    obtain ⟨g0, e0, o0, t0⟩ := field_at f34_0
    obtain ⟨g1, e1, o1, t1⟩ := field_at f34_1
    obtain ⟨g2, e2, o2, t2⟩ := field_at f34_2
    obtain ⟨g3, e3, o3, t3⟩ := field_at f34_3
    obtain ⟨g4, e4, o4, t4⟩ := field_at f34_4
    have k0 := hf 0 g0 e0
    have k1 := hf 1 g1 e1
    have k2 := hf 2 g2 e2
    have k3 := hf 3 g3 e3
    have k4 := hf 4 g4 e4
    have hs : xs.length = 5 := by rw [hxl]; kernel_rfl
    rw [o0, t0, c3] at k0
    rw [o1, t1, c3] at k1
    rw [o2, t2, c3] at k2
    rw [o3, t3, c3] at k3
    rw [o4, t4, c32] at k4
    rw [List.getElem?_eq_getElem (by omega)] at k0 k1 k2 k3 k4
    obtain ⟨a, ha, _, _⟩ := DataW.trod_int Try.und3 k0
    obtain ⟨b, hb, _, _⟩ := DataW.trod_int Try.und3 k1
    obtain ⟨c, hc, _, _⟩ := DataW.trod_int Try.und3 k2
    obtain ⟨d, hd, _, _⟩ := DataW.trod_int Try.und3 k3
    obtain ⟨f, hcs, hl⟩ := open_flight k4
    simp at ha hb hc hd hcs
    obtain ⟨rfl, rfl, rfl⟩ := hcs
    subst ha; subst hb; subst hc; subst hd
    exact ⟨⟨a, b, c, d, f⟩, rfl, hl⟩
set_option maxRecDepth 100000 in
theorem view_acts {v : Value} {d : DataW H} {ps : List MemPlace} {b0 : Nat} {r : Reach} (hv : Value.okWide Try.prog W r b0 22 v) (h : DataW.Trod enc Try.prog W 0 (fun _ => true) true 22 v d ps) :
    ∃ l, Acts W v l := by
  obtain ⟨a0, len, cap, rfl⟩ := okWide_slice Try.u22 hv
  obtain ⟨fuel, hf⟩ := h
  rcases open_slice Try.u22 hf with ⟨hcs, hx⟩ | ⟨a, len', cap', m, n, D, Pl, hcs, _, hl, hm, hmm, hx, hel⟩
  · simp [Value.cells] at hcs
    obtain ⟨rfl, rfl, rfl⟩ := hcs
    exact ⟨[], none, 0, rfl, by simp, fun i a h => by simp at h⟩
  · simp [Value.cells] at hcs
    obtain ⟨rfl, rfl, rfl⟩ := hcs
    simp only [if_true] at hmm
    subst hmm
    have each : ∀ i, i < len → ∃ p : Ac, W.cell? (a.add (i * 7)) = some (.int .i64 p.kind) ∧ W.cell? (a.add (i * 7 + 1)) = some (.int .i64 p.k) ∧ W.cell? (a.add (i * 7 + 2)) = some (.int .i64 p.m) ∧ W.cell? (a.add (i * 7 + 3)) = some (.int .i64 p.b) ∧ W.cell? (a.add (i * 7 + 4)) = some (.int .i64 p.f.dst) ∧ W.cell? (a.add (i * 7 + 5)) = some p.f.bv ∧ W.cell? (a.add (i * 7 + 6)) = some (.bool p.f.hurt) ∧ Lies W p.f.bv p.f.bs ∧ Byt p.f.bs := by
      intro i hi
      obtain ⟨cs', hc, ht⟩ := hel i (by omega)
      obtain ⟨p, hcs, hp⟩ := open_act ht
      rw [c34] at hc
      obtain ⟨_, hcl, hat⟩ := World.cells?_some hc
      have hh : ∀ j, j < 7 → W.cell? (a.add (i * 7 + j)) = cs'[j]? := fun j hj => by
        have := hat j (by omega)
        rwa [add_add'] at this
      rw [hcs] at hh
      exact ⟨p, hh 0 (by omega), hh 1 (by omega), hh 2 (by omega), hh 3 (by omega), hh 4 (by omega), hh 5 (by omega), hh 6 (by omega), hp⟩
    obtain ⟨f, hf2⟩ := choose_lt' each
    have hlen : ((List.range len).map f).length = len := by simp
    refine ⟨(List.range len).map f, some a, _, by rw [hlen], by rw [hlen]; unfold maxLen at hm; omega, fun i p hp => ?_⟩
    have hil : i < len := by
      have := (List.getElem?_eq_some_iff.1 hp).1
      rwa [hlen] at this
    obtain ⟨g, off, spot⟩ := a
    have h00 := (hf2 0 (by omega)).1
    have hspot : spot = none := by simpa [Addr.add] using World.cell?_spot h00
    subst hspot
    have hgl : g < W.heap.size := by simpa [Addr.add_lit] using World.block_lt_of_cell? W _ h00
    have hfp : f i = p := by simpa [hil] using hp
    have q := hf2 i hil
    simp only [hfp, add_addr] at q
    refine ⟨g, off, rfl, hgl, ?_⟩
    simp only [Nat.add_assoc]
    exact q
end
end Go.Proofs.Ytdocfoienbadhaa
