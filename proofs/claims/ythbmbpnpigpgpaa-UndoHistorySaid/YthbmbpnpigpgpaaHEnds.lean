/- The ends of undo's rows: rows, changes, stamps, opened. -/
import Derived.Test.YthbmbpnpigpgpaaHN
import Derived.ProofKit
import Derived.LaidMore
import Derived.OpenShut
import Derived.Stop.Joined
import Derived.SevenTiedAt
import Derived.Carry
import Derived.Lib.SmallJoins
import Derived.Deep.Slices
import Derived.Shelf.Vars
import Derived.Lay
set_option linter.unusedVariables false
namespace Go.Proofs.Ythbmbpnpigpgpaa
open Go.ChangeShapes Go.WideShapes Go.ChangeAt Go.RowKit Go.Joins Go.Deep

theorem Try.laidOut : laidOutB Try.prog = true := by kernel_rfl
theorem Try.own : ownKnob Try.prog.godebug = none := by kernel_rfl
section
variable {H : Type} {enc : TypeId × Value → H}
theorem post_read {f : Func} {s : ChangeSpec} {W W' : World} {args : Array Value} {v : Value} {ds gs : List (DataW H)} {ps pa pv pr : List MemPlace}
    (hW : DataW.Whole enc Try.prog f.params.toList s.vars false W args.toList ds gs ps) (hb : Below W.heap.size W W')
    (ha : DataW.TrodAll enc Try.prog W' 0 (fun b => decide (b < W.heap.size)) true f.params.toList args.toList (s.fn H (ds ++ gs)).args pa)
    (hg : DataW.TrodVars enc Try.prog W' (fun b => decide (b < W.heap.size)) s.vars (s.fn H (ds ++ gs)).vars pv)
    (hr : DataW.TrodAll enc Try.prog W' W.heap.size (fun _ => false) false f.resultTypes.toList (v.resultList f.resultTypes.size) (s.fn H (ds ++ gs)).results pr) :
    s.post enc Try.prog f false true false false W args v W' :=
  ⟨_, _, _, pr, pa, pv, hW, hr, ha, hg, hb.frame _, fun h => by cases h⟩
end
theorem end_add (a : Addr) (i j : Nat) : (a.add i).add j = a.add (i + j) := by
  obtain ⟨g, o, s⟩ := a
  unfold Addr.add
  repeat' split
  all_goals simp_all
  all_goals omega
theorem end_addr (k o j : Nat) : (⟨k, o, none⟩ : Addr).add j = ⟨k, o + j, none⟩ := by
  unfold Addr.add
  repeat' split
  all_goals simp_all
theorem end_choose {α : Type} [Inhabited α] {n : Nat} {P : Nat → α → Prop} (h : ∀ i, i < n → ∃ a, P i a) : ∃ f : Nat → α, ∀ i, i < n → P i (f i) := by
  refine ⟨fun i => if h1 : i < n then Classical.choose (h i h1) else default, fun i hi => ?_⟩
  simp only [dif_pos hi]
  exact Classical.choose_spec (h i hi)
theorem field_at {fs : Array Field} {i o t : Nat} (h : fs[i]?.map (fun f => (f.offset, f.type)) = some (o, t)) : ∃ f, fs[i]? = some f ∧ f.offset = o ∧ f.type = t := by
  cases hf : fs[i]? with
  | none => rw [hf] at h; simp at h
  | some f => rw [hf] at h; simp at h; exact ⟨f, rfl, h.1, h.2⟩
set_option maxRecDepth 100000 in
/-- A slice that came in, its elements opened one by one. -/
theorem view_slice {H : Type} {enc : TypeId × Value → H} {W : World} {α : Type} [Inhabited α] {t e : TypeId} {size : Nat} (hu : Try.prog.underlying t = some (.slice e)) (hce : Try.prog.cellsOf e = size) (hs : 0 < size) (Q : α → Prop) (en : α → List Value)
    (op : ∀ {fuel : Nat} {cs : List Value} {x : DataW H × List MemPlace}, DataW.trod enc Try.prog W 0 (fun _ => true) true fuel e cs = some x → ∃ p, Q p ∧ cs = en p)
    {v : Value} {d : DataW H} {ps : List MemPlace} {b0 : Nat} {r : Reach} (hv : Value.okWide Try.prog W r b0 t v) (h : DataW.Trod enc Try.prog W 0 (fun _ => true) true t v d ps) :
    ∃ ao cap l, v = .slice ao l.length cap ∧ l.length ≤ cap ∧ cap ≤ maxLen ∧ (ao = none → l = [] ∧ cap = 0) ∧ (∀ b, ao = some b → l ≠ [] → ∃ g k, b = ⟨g, k, none⟩ ∧ g < W.heap.size ∧ ∀ (j : Nat) (p : α), l[j]? = some p → ∀ (i : Nat) (u : Value), (en p)[i]? = some u → W.cell? ⟨g, k + j * size + i, none⟩ = some u) ∧ ∀ p ∈ l, Q p := by
  obtain ⟨a0, len, cap, rfl⟩ := okWide_slice hu hv
  obtain ⟨fuel, hf⟩ := h
  rcases open_slice hu hf with ⟨hcs, hx⟩ | ⟨a, len', cap', m, n, D, Pl, hcs, _, hl, hm, hmm, hx, hel⟩
  · simp [Value.cells] at hcs
    obtain ⟨rfl, rfl, rfl⟩ := hcs
    exact ⟨none, 0, [], rfl, Nat.le_refl _, Nat.zero_le _, fun _ => ⟨rfl, rfl⟩, (fun b hb => by cases hb), (fun p hp => by cases hp)⟩
  · simp [Value.cells] at hcs
    obtain ⟨rfl, rfl, rfl⟩ := hcs
    simp only [if_true] at hmm
    subst hmm
    have each : ∀ i, i < len → ∃ p : α, Q p ∧ ∀ (r : Nat) (u : Value), (en p)[r]? = some u → W.cell? (a.add (i * size + r)) = some u := by
      intro i hi
      obtain ⟨cs', hc, ht⟩ := hel i (by omega)
      obtain ⟨p, hp, hcs⟩ := op ht
      rw [hce] at hc
      obtain ⟨_, hcl, hat⟩ := World.cells?_some hc
      refine ⟨p, hp, fun r u hr => ?_⟩
      have hrl : r < (en p).length := (List.getElem?_eq_some_iff.1 hr).1
      have hlen : cs'.length = size := by first | exact hcl | (rw [← hcl]) | simpa using hcl
      have := hat r (by rw [← hcs, hlen] at hrl; exact hrl)
      rw [end_add, hcs, hr] at this
      exact this
    obtain ⟨f, hf2⟩ := end_choose each
    have hlen : ((List.range len).map f).length = len := by simp
    refine ⟨some a, _, (List.range len).map f, by rw [hlen], by rw [hlen]; exact hl, hm, (fun e => by cases e), fun b hb hne => ?_, fun p hp => ?_⟩
    rotate_left 1
    · obtain ⟨i, hi, rfl⟩ := List.mem_map.1 hp
      exact (hf2 i (List.mem_range.1 hi)).1
    cases hb
    have hpos : 0 < len := by
      rcases Nat.eq_zero_or_pos len with h0 | h0
      · subst h0; exact absurd rfl hne
      · exact h0
    obtain ⟨g, off, spot⟩ := a
    have h00 : ∃ u, W.cell? (⟨g, off, spot⟩ : Addr) = some u := by
      obtain ⟨cs', hc, ht⟩ := hel 0 (by omega)
      rw [hce] at hc
      obtain ⟨_, hcl, hat⟩ := World.cells?_some hc
      have hlen2 : cs'.length = size := by first | exact hcl | (rw [← hcl]) | simpa using hcl
      have h0 := hat 0 (by omega)
      rw [end_add] at h0
      have hz : (⟨g, off, spot⟩ : Addr).add (0 * size + 0) = ⟨g, off, spot⟩ := by simp [Addr.add]; try (cases spot <;> simp)
      rw [hz] at h0
      exact ⟨_, h0.trans (List.getElem?_eq_getElem (by omega))⟩
    obtain ⟨u00, h00⟩ := h00
    have hspot : spot = none := by simpa using World.cell?_spot h00
    subst hspot
    have hgl : g < W.heap.size := by simpa using World.block_lt_of_cell? W _ h00
    refine ⟨g, off, rfl, hgl, fun j p hp i u hi => ?_⟩
    have hil : j < len := by
      have := (List.getElem?_eq_some_iff.1 hp).1
      rwa [hlen] at this
    have hfp : f j = p := by simpa [hil] using hp
    have q := (hf2 j hil).2 i u (by rw [hfp]; exact hi)
    rw [end_addr] at q
    rw [Nat.add_assoc]
    exact q
noncomputable def fs61 : Array Field := match Try.prog.underlying 61 with | some (.struct f) => f | _ => #[]
theorem und61 : Try.prog.underlying 61 = some (.struct fs61) := by kernel_rfl
theorem cel61 : Try.prog.cellsOf 61 = 2 := by kernel_rfl
theorem f61_0 : fs61[0]?.map (fun f => (f.offset, f.type)) = some (0, 3) := by kernel_rfl
theorem f61_1 : fs61[1]?.map (fun f => (f.offset, f.type)) = some (1, 3) := by kernel_rfl
set_option maxRecDepth 100000 in
theorem open_st {H : Type} {enc : TypeId × Value → H} {W : World} {base : Nat} {spare : Nat → Bool} {held : Bool} {fuel : Nat} {cs : List Value} {x : DataW H × List MemPlace} (h : DataW.trod enc Try.prog W base spare held fuel 61 cs = some x) :
    ∃ p : Int × Int, (I64 p.1 ∧ I64 p.2) ∧ cs = [Value.int .i64 p.1, .int .i64 p.2] := by
  obtain ⟨xs, n, _, _, hlen, hxl, hf⟩ := DataW.trod_struct und61 h
  rw [cel61] at hlen
  match cs, hlen with
  | [u0_, u1_], _ =>
    obtain ⟨g0, e0, o0, t0⟩ := field_at f61_0
    have k0 := hf 0 g0 e0
    obtain ⟨g1, e1, o1, t1⟩ := field_at f61_1
    have k1 := hf 1 g1 e1
    have hs : xs.length = 2 := by rw [hxl]; kernel_rfl
    rw [o0, t0, (show Try.prog.cellsOf 3 = 1 by kernel_rfl), List.getElem?_eq_getElem (by omega)] at k0
    obtain ⟨a0, ha0, _, w0⟩ := DataW.trod_int (show Try.prog.underlying 3 = some (.int .i64) by kernel_rfl) k0
    have w0 : a0 ≤ 9223372036854775807 ∧ -9223372036854775808 ≤ a0 := by have h := w0; simp [Lit.wf, IntKind.min, IntKind.max, IntKind.bits, IntKind.signed] at h; omega
    simp at ha0
    rw [o1, t1, (show Try.prog.cellsOf 3 = 1 by kernel_rfl), List.getElem?_eq_getElem (by omega)] at k1
    obtain ⟨a1, ha1, _, w1⟩ := DataW.trod_int (show Try.prog.underlying 3 = some (.int .i64) by kernel_rfl) k1
    have w1 : a1 ≤ 9223372036854775807 ∧ -9223372036854775808 ≤ a1 := by have h := w1; simp [Lit.wf, IntKind.min, IntKind.max, IntKind.bits, IntKind.signed] at h; omega
    simp at ha1
    refine ⟨(a0, a1), ⟨⟨w0.2, w0.1⟩, ⟨w1.2, w1.1⟩⟩, ?_⟩
    simp [*]
noncomputable def fs66 : Array Field := match Try.prog.underlying 66 with | some (.struct f) => f | _ => #[]
theorem und66 : Try.prog.underlying 66 = some (.struct fs66) := by kernel_rfl
theorem cel66 : Try.prog.cellsOf 66 = 4 := by kernel_rfl
theorem f66_0 : fs66[0]?.map (fun f => (f.offset, f.type)) = some (0, 61) := by kernel_rfl
theorem f66_1 : fs66[1]?.map (fun f => (f.offset, f.type)) = some (2, 9) := by kernel_rfl
theorem f66_2 : fs66[2]?.map (fun f => (f.offset, f.type)) = some (3, 4) := by kernel_rfl
set_option maxRecDepth 100000 in
theorem open_en {H : Type} {enc : TypeId × Value → H} {W : World} {base : Nat} {spare : Nat → Bool} {held : Bool} {fuel : Nat} {cs : List Value} {x : DataW H × List MemPlace} (h : DataW.trod enc Try.prog W base spare held fuel 66 cs = some x) :
    ∃ p : (Int × Int) × ByteArray × Bool, (I64 p.1.1 ∧ I64 p.1.2) ∧ cs = [Value.int .i64 p.1.1, .int .i64 p.1.2, .string p.2.1, .bool p.2.2] := by
  obtain ⟨xs, n, _, _, hlen, hxl, hf⟩ := DataW.trod_struct und66 h
  rw [cel66] at hlen
  match cs, hlen with
  | [u0_, u1_, u2_, u3_], _ =>
    obtain ⟨g0, e0, o0, t0⟩ := field_at f66_0
    have k0 := hf 0 g0 e0
    obtain ⟨g1, e1, o1, t1⟩ := field_at f66_1
    have k1 := hf 1 g1 e1
    obtain ⟨g2, e2, o2, t2⟩ := field_at f66_2
    have k2 := hf 2 g2 e2
    have hs : xs.length = 3 := by rw [hxl]; kernel_rfl
    rw [o0, t0, cel61, List.getElem?_eq_getElem (by omega)] at k0
    obtain ⟨a0, w0, ha0⟩ := open_st k0
    simp at ha0
    rw [o1, t1, (show Try.prog.cellsOf 9 = 1 by kernel_rfl), List.getElem?_eq_getElem (by omega)] at k1
    obtain ⟨a1, ha1, _, w1⟩ := DataW.trod_string (show Try.prog.underlying 9 = some .string by kernel_rfl) k1
    simp at ha1
    rw [o2, t2, (show Try.prog.cellsOf 4 = 1 by kernel_rfl), List.getElem?_eq_getElem (by omega)] at k2
    obtain ⟨a2, ha2, _⟩ := DataW.trod_bool (show Try.prog.underlying 4 = some .bool by kernel_rfl) k2
    simp at ha2
    refine ⟨(a0, a1, a2), w0, ?_⟩
    simp [*]
noncomputable def fs68 : Array Field := match Try.prog.underlying 68 with | some (.struct f) => f | _ => #[]
theorem und68 : Try.prog.underlying 68 = some (.struct fs68) := by kernel_rfl
theorem cel68 : Try.prog.cellsOf 68 = 6 := by kernel_rfl
theorem f68_0 : fs68[0]?.map (fun f => (f.offset, f.type)) = some (0, 61) := by kernel_rfl
theorem f68_1 : fs68[1]?.map (fun f => (f.offset, f.type)) = some (2, 66) := by kernel_rfl
set_option maxRecDepth 100000 in
theorem open_row {H : Type} {enc : TypeId × Value → H} {W : World} {base : Nat} {spare : Nat → Bool} {held : Bool} {fuel : Nat} {cs : List Value} {x : DataW H × List MemPlace} (h : DataW.trod enc Try.prog W base spare held fuel 68 cs = some x) :
    ∃ p : Rw, p.ok ∧ cs = enc6 p := by
  obtain ⟨xs, n, _, _, hlen, hxl, hf⟩ := DataW.trod_struct und68 h
  rw [cel68] at hlen
  match cs, hlen with
  | [u0_, u1_, u2_, u3_, u4_, u5_], _ =>
    obtain ⟨g0, e0, o0, t0⟩ := field_at f68_0
    have k0 := hf 0 g0 e0
    obtain ⟨g1, e1, o1, t1⟩ := field_at f68_1
    have k1 := hf 1 g1 e1
    have hs : xs.length = 2 := by rw [hxl]; kernel_rfl
    rw [o0, t0, cel61, List.getElem?_eq_getElem (by omega)] at k0
    obtain ⟨a0, w0, ha0⟩ := open_st k0
    simp at ha0
    rw [o1, t1, cel66, List.getElem?_eq_getElem (by omega)] at k1
    obtain ⟨a1, w1, ha1⟩ := open_en k1
    simp at ha1
    refine ⟨⟨a0.1, a0.2, a1.1.1, a1.1.2, a1.2.1, a1.2.2⟩, ⟨w0.1, w0.2, w1.1, w1.2⟩, ?_⟩
    simp [*, enc6]
noncomputable def fs63 : Array Field := match Try.prog.underlying 63 with | some (.struct f) => f | _ => #[]
theorem und63 : Try.prog.underlying 63 = some (.struct fs63) := by kernel_rfl
theorem cel63 : Try.prog.cellsOf 63 = 7 := by kernel_rfl
theorem f63_0 : fs63[0]?.map (fun f => (f.offset, f.type)) = some (0, 4) := by kernel_rfl
theorem f63_1 : fs63[1]?.map (fun f => (f.offset, f.type)) = some (1, 61) := by kernel_rfl
theorem f63_2 : fs63[2]?.map (fun f => (f.offset, f.type)) = some (3, 61) := by kernel_rfl
theorem f63_3 : fs63[3]?.map (fun f => (f.offset, f.type)) = some (5, 9) := by kernel_rfl
theorem f63_4 : fs63[4]?.map (fun f => (f.offset, f.type)) = some (6, 4) := by kernel_rfl
set_option maxRecDepth 100000 in
theorem open_ch {H : Type} {enc : TypeId × Value → H} {W : World} {base : Nat} {spare : Nat → Bool} {held : Bool} {fuel : Nat} {cs : List Value} {x : DataW H × List MemPlace} (h : DataW.trod enc Try.prog W base spare held fuel 63 cs = some x) :
    ∃ p : Ch, OkH p ∧ cs = encH p := by
  obtain ⟨xs, n, _, _, hlen, hxl, hf⟩ := DataW.trod_struct und63 h
  rw [cel63] at hlen
  match cs, hlen with
  | [u0_, u1_, u2_, u3_, u4_, u5_, u6_], _ =>
    obtain ⟨g0, e0, o0, t0⟩ := field_at f63_0
    have k0 := hf 0 g0 e0
    obtain ⟨g1, e1, o1, t1⟩ := field_at f63_1
    have k1 := hf 1 g1 e1
    obtain ⟨g2, e2, o2, t2⟩ := field_at f63_2
    have k2 := hf 2 g2 e2
    obtain ⟨g3, e3, o3, t3⟩ := field_at f63_3
    have k3 := hf 3 g3 e3
    obtain ⟨g4, e4, o4, t4⟩ := field_at f63_4
    have k4 := hf 4 g4 e4
    have hs : xs.length = 5 := by rw [hxl]; kernel_rfl
    rw [o0, t0, (show Try.prog.cellsOf 4 = 1 by kernel_rfl), List.getElem?_eq_getElem (by omega)] at k0
    obtain ⟨a0, ha0, _⟩ := DataW.trod_bool (show Try.prog.underlying 4 = some .bool by kernel_rfl) k0
    simp at ha0
    rw [o1, t1, cel61, List.getElem?_eq_getElem (by omega)] at k1
    obtain ⟨a1, w1, ha1⟩ := open_st k1
    simp at ha1
    rw [o2, t2, cel61, List.getElem?_eq_getElem (by omega)] at k2
    obtain ⟨a2, w2, ha2⟩ := open_st k2
    simp at ha2
    rw [o3, t3, (show Try.prog.cellsOf 9 = 1 by kernel_rfl), List.getElem?_eq_getElem (by omega)] at k3
    obtain ⟨a3, ha3, _, w3⟩ := DataW.trod_string (show Try.prog.underlying 9 = some .string by kernel_rfl) k3
    simp at ha3
    rw [o4, t4, (show Try.prog.cellsOf 4 = 1 by kernel_rfl), List.getElem?_eq_getElem (by omega)] at k4
    obtain ⟨a4, ha4, _⟩ := DataW.trod_bool (show Try.prog.underlying 4 = some .bool by kernel_rfl) k4
    simp at ha4
    refine ⟨⟨a0, a1.1, a1.2, a2.1, a2.2, a3, a4⟩, ⟨w1.1, w1.2, w2.1, w2.2⟩, ?_⟩
    simp [*, encH]
noncomputable instance : Inhabited Rw := ⟨⟨0, 0, 0, 0, ⟨#[]⟩, false⟩⟩
noncomputable instance : Inhabited Ch := ⟨⟨false, 0, 0, 0, 0, ⟨#[]⟩, false⟩⟩
theorem Try.e22 : Try.prog.underlying 22 = some (.slice 68) := by kernel_rfl
theorem Try.e23 : Try.prog.underlying 23 = some (.slice 63) := by kernel_rfl
theorem Try.e24 : Try.prog.underlying 24 = some (.slice 61) := by kernel_rfl
section
variable {H : Type} {enc : TypeId × Value → H} {W : World}
set_option maxRecDepth 100000 in
theorem view_rows {v : Value} {d : DataW H} {ps : List MemPlace} {b0 : Nat} {r : Reach} (hv : Value.okWide Try.prog W r b0 22 v) (h : DataW.Trod enc Try.prog W 0 (fun _ => true) true 22 v d ps) :
    ∃ l, LiesR W v l ∧ ∀ x ∈ l, x.ok := by
  obtain ⟨ao, cap, l, h1, h2, h3, h4, h5, h6⟩ := view_slice Try.e22 cel68 (Nat.succ_pos _) (fun x => x.ok) enc6 (fun h => open_row h) hv h
  exact ⟨l, ⟨ao, cap, h1, h2, h3, h4, h5⟩, h6⟩
set_option maxRecDepth 100000 in
theorem view_chs {v : Value} {d : DataW H} {ps : List MemPlace} {b0 : Nat} {r : Reach} (hv : Value.okWide Try.prog W r b0 23 v) (h : DataW.Trod enc Try.prog W 0 (fun _ => true) true 23 v d ps) :
    ∃ l, LiesK encH 7 W v l ∧ ∀ x ∈ l, OkH x := by
  obtain ⟨ao, cap, l, h1, h2, h3, h4, h5, h6⟩ := view_slice Try.e23 cel63 (Nat.succ_pos _) (fun x => OkH x) encH (fun h => open_ch h) hv h
  exact ⟨l, ⟨ao, cap, h1, h2, h3, h4, h5⟩, h6⟩
set_option maxRecDepth 100000 in
theorem view_sts {v : Value} {d : DataW H} {ps : List MemPlace} {b0 : Nat} {r : Reach} (hv : Value.okWide Try.prog W r b0 24 v) (h : DataW.Trod enc Try.prog W 0 (fun _ => true) true 24 v d ps) :
    ∃ l, LiesK encS 2 W v l ∧ ∀ x ∈ l, I64 x.1 ∧ I64 x.2 := by
  obtain ⟨ao, cap, l, h1, h2, h3, h4, h5, h6⟩ := view_slice Try.e24 cel61 (Nat.succ_pos _) (fun x => I64 x.1 ∧ I64 x.2) encS (fun h => open_st h) hv h
  exact ⟨l, ⟨ao, cap, h1, h2, h3, h4, h5⟩, h6⟩
end
end Go.Proofs.Ythbmbpnpigpgpaa
