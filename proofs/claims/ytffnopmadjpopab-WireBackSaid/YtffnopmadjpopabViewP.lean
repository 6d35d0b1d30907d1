/- A slice of parts that came in, opened: its cells are numbers and texts. -/
import Derived.Test.YtffnopmadjpopabParts
set_option linter.unusedVariables false
namespace Go.Proofs.Ytffnopmadjpopab
open Go.ChangeShapes Go.WideShapes Go.ChangeAt Go.RowKit Go.Deep

noncomputable def fs30 : Array Field := match Try.prog.underlying 30 with | some (.struct f) => f | _ => #[]
noncomputable def fs28 : Array Field := match Try.prog.underlying 28 with | some (.struct f) => f | _ => #[]
theorem und30 : Try.prog.underlying 30 = some (.struct fs30) := by kernel_rfl
theorem und28 : Try.prog.underlying 28 = some (.struct fs28) := by kernel_rfl
theorem f30_0 : fs30[0]?.map (fun f => (f.offset, f.type)) = some (0, 3) := by kernel_rfl
theorem f30_1 : fs30[1]?.map (fun f => (f.offset, f.type)) = some (1, 3) := by kernel_rfl
theorem f30_2 : fs30[2]?.map (fun f => (f.offset, f.type)) = some (2, 9) := by kernel_rfl
theorem f30_3 : fs30[3]?.map (fun f => (f.offset, f.type)) = some (3, 28) := by kernel_rfl
theorem f28_0 : fs28[0]?.map (fun f => (f.offset, f.type)) = some (0, 3) := by kernel_rfl
theorem f28_1 : fs28[1]?.map (fun f => (f.offset, f.type)) = some (1, 3) := by kernel_rfl
theorem c30 : Try.prog.cellsOf 30 = 5 := by kernel_rfl
theorem c28 : Try.prog.cellsOf 28 = 2 := by kernel_rfl
theorem c3 : Try.prog.cellsOf 3 = 1 := by kernel_rfl
theorem c9 : Try.prog.cellsOf 9 = 1 := by kernel_rfl

instance : Inhabited Pt := ⟨⟨0, 0, ⟨#[]⟩, 0, 0⟩⟩
section
variable {H : Type} {enc : TypeId × Value → H} {W : World} {base : Nat} {spare : Nat → Bool} {held : Bool}
theorem field_at {fs : Array Field} {i o t : Nat} (h : fs[i]?.map (fun f => (f.offset, f.type)) = some (o, t)) : ∃ f, fs[i]? = some f ∧ f.offset = o ∧ f.type = t := by
  cases hf : fs[i]? with
  | none => rw [hf] at h; simp at h
  | some f => rw [hf] at h; simp at h; exact ⟨f, rfl, h.1, h.2⟩

theorem i64_wf {n : Int} (h : (Lit.int .i64 n).wf = true) : -9223372036854775808 ≤ n ∧ n ≤ 9223372036854775807 := by
  simp [Lit.wf, IntKind.min, IntKind.max, IntKind.bits, IntKind.signed] at h
  omega

theorem open_stamp {fuel : Nat} {cs : List Value} {x : DataW H × List MemPlace} (h : DataW.trod enc Try.prog W base spare held fuel 28 cs = some x) :
    ∃ a b : Int, cs = [.int .i64 a, .int .i64 b] ∧ (-9223372036854775808 ≤ a ∧ a ≤ 9223372036854775807) ∧ (-9223372036854775808 ≤ b ∧ b ≤ 9223372036854775807) := by
  obtain ⟨xs, n, _, _, hlen, hxl, hf⟩ := DataW.trod_struct und28 h
  rw [c28] at hlen
  match cs, hlen with
  | [u0, u1], _ =>
    obtain ⟨g0, e0, o0, t0⟩ := field_at f28_0
    obtain ⟨g1, e1, o1, t1⟩ := field_at f28_1
    have k0 := hf 0 g0 e0
    have k1 := hf 1 g1 e1
    have hs : xs.length = 2 := by rw [hxl]; kernel_rfl
    rw [o0, t0, c3] at k0
    rw [o1, t1, c3] at k1
    rw [List.getElem?_eq_getElem (by omega)] at k0 k1
    obtain ⟨a, ha, _, wa⟩ := DataW.trod_int Try.underlying3 k0
    obtain ⟨b, hb, _, wb⟩ := DataW.trod_int Try.underlying3 k1
    simp at ha hb
    subst ha; subst hb
    exact ⟨a, b, rfl, i64_wf wa, i64_wf wb⟩

theorem open_part {fuel : Nat} {cs : List Value} {x : DataW H × List MemPlace} (h : DataW.trod enc Try.prog W base spare held fuel 30 cs = some x) :
    ∃ p : Pt, p.ok ∧ cs = [.int .i64 p.k, .int .i64 p.n, .string p.s, .int .i64 p.x, .int .i64 p.y] := by
  obtain ⟨xs, n, _, _, hlen, hxl, hf⟩ := DataW.trod_struct und30 h
  rw [c30] at hlen
  match cs, hlen with
  | [u0, u1, u2, u3, u4], _ =>
    obtain ⟨g0, e0, o0, t0⟩ := field_at f30_0
    obtain ⟨g1, e1, o1, t1⟩ := field_at f30_1
    obtain ⟨g2, e2, o2, t2⟩ := field_at f30_2
    obtain ⟨g3, e3, o3, t3⟩ := field_at f30_3
    have k0 := hf 0 g0 e0
    have k1 := hf 1 g1 e1
    have k2 := hf 2 g2 e2
    have k3 := hf 3 g3 e3
    have hs : xs.length = 4 := by rw [hxl]; kernel_rfl
    rw [o0, t0, c3] at k0
    rw [o1, t1, c3] at k1
    rw [o2, t2, c9] at k2
    rw [o3, t3, c28] at k3
    rw [List.getElem?_eq_getElem (by omega)] at k0 k1 k2 k3
    obtain ⟨a, ha, _, wa⟩ := DataW.trod_int Try.underlying3 k0
    obtain ⟨b, hb, _, wb⟩ := DataW.trod_int Try.underlying3 k1
    obtain ⟨s, hs, _, ws⟩ := DataW.trod_string Try.underlying9 k2
    obtain ⟨c, d, hcd, wc, wd⟩ := open_stamp k3
    simp at ha hb hs hcd
    obtain ⟨hc, hd⟩ := hcd
    subst ha; subst hb; subst hs; subst hc; subst hd
    unfold maxLen at ws
    exact ⟨⟨a, b, s, c, d⟩, ⟨(i64_wf wb).2, wc.2, wd.2, by show s.size ≤ _; omega⟩, rfl⟩

theorem view_parts {v : Value} {d : DataW H} {ps : List MemPlace} {b0 : Nat} {r : Reach} (hv : Value.okWide Try.prog W r b0 22 v) (h : DataW.Trod enc Try.prog W 0 (fun _ => true) true 22 v d ps) :
    ∃ l, Holds5 W v l := by
  obtain ⟨a0, len, cap, rfl⟩ := okWide_slice Try.underlying22 hv
  obtain ⟨fuel, hf⟩ := h
  rcases open_slice Try.underlying22 hf with ⟨hcs, hx⟩ | ⟨a, len', cap', m, n, D, Pl, hcs, _, hl, hm, hmm, hx, hel⟩
  · simp [Value.cells] at hcs
    obtain ⟨rfl, rfl, rfl⟩ := hcs
    exact ⟨[], none, 0, rfl, by simp, (fun p hp => by cases hp), fun e => absurd rfl e⟩
  · simp [Value.cells] at hcs
    obtain ⟨rfl, rfl, rfl⟩ := hcs
    simp only [if_true] at hmm
    subst hmm
    have each : ∀ i, i < len → ∃ p : Pt, p.ok ∧ ∀ j u, [Value.int .i64 p.k, .int .i64 p.n, .string p.s, .int .i64 p.x, .int .i64 p.y][j]? = some u → W.cell? (a.add (i * 5 + j)) = some u := by
      intro i hi
      obtain ⟨cs', hc, ht⟩ := hel i (by omega)
      obtain ⟨p, hp, hcs⟩ := open_part ht
      rw [c30] at hc
      obtain ⟨_, hcl, hat⟩ := World.cells?_some hc
      refine ⟨p, hp, fun j u hj => ?_⟩
      have hj5 : j < 5 := by
        have := (List.getElem?_eq_some_iff.1 hj).1
        simpa using this
      rw [← add_add, hat j hj5, hcs]
      exact hj
    obtain ⟨f, hf2⟩ := choose_lt each
    have hlen : ((List.range len).map f).length = len := by simp
    unfold maxLen at hm
    refine ⟨(List.range len).map f, some a, _, by rw [hlen], by rw [hlen]; omega, fun p hp => ?_, fun hne => ?_⟩
    · obtain ⟨i, hi, rfl⟩ := List.mem_map.1 hp
      exact (hf2 i (List.mem_range.1 hi)).1
    · have hpos : 0 < len := by
        rcases Nat.eq_zero_or_pos len with h0 | h0
        · subst h0; exact absurd rfl hne
        · exact h0
      obtain ⟨g, off, spot⟩ := a
      have h00 := (hf2 0 hpos).2 0 _ rfl
      have hspot : spot = none := by simpa [Addr.add] using World.cell?_spot h00
      subst hspot
      have hgl : g < W.heap.size := by simpa [Addr.add_lit] using World.block_lt_of_cell? W _ h00
      refine ⟨g, off, rfl, hgl, fun i p hp => ?_⟩
      have hil : i < len := by
        have := (List.getElem?_eq_some_iff.1 hp).1
        rwa [hlen] at this
      have hfp : f i = p := by
        simpa [hil] using hp
      have q := fun j u => (hf2 i hil).2 j u
      rw [hfp] at q
      simp only [Addr.add_lit] at q
      exact ⟨q 0 _ rfl, q 1 _ rfl, q 2 _ rfl, q 3 _ rfl, q 4 _ rfl⟩
end
end Go.Proofs.Ytffnopmadjpopab
