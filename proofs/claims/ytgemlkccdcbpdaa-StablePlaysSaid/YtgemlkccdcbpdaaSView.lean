/- The rows' ends: arguments that lead to memory read behind the call as they did; a slice of the law's pairs, and a slice of its calls, opened. -/
import Derived.Test.YtgemlkccdcbpdaaVL
import Derived.Test.YtgemlkccdcbpdaaRows
import Derived.ProofKit
import Derived.Lib.SmallJoins
import Derived.Carry
import Derived.ChangeSlices
import Derived.Deep.Slices
set_option linter.unusedVariables false
namespace Go.Proofs.Ytgemlkccdcbpdaa
open Go.ChangeShapes Go.WideShapes Go.ChangeAt Go.RowKit
open Go.Deep (open_slice)

theorem Try.own : ownKnob Try.prog.godebug = none := by kernel_rfl
theorem Try.laidOut : laidOutB Try.prog = true := by kernel_rfl
section
variable {H : Type} {enc : TypeId × Value → H}
/-- What a law owes behind the call, when nothing of old has turned. -/
theorem post_read {f : Func} {s : ChangeSpec} {W W' : World} {args : Array Value} {v : Value} {ds gs : List (DataW H)} {ps pa pv pr : List MemPlace}
    (hW : DataW.Whole enc Try.prog f.params.toList s.vars false W args.toList ds gs ps) (hb : Below W.heap.size W W')
    (ha : DataW.TrodAll enc Try.prog W' 0 (fun b => decide (b < W.heap.size)) true f.params.toList args.toList (s.fn H (ds ++ gs)).args pa)
    (hg : DataW.TrodVars enc Try.prog W' (fun b => decide (b < W.heap.size)) s.vars (s.fn H (ds ++ gs)).vars pv)
    (hr : DataW.TrodAll enc Try.prog W' W.heap.size (fun _ => false) false f.resultTypes.toList (v.resultList f.resultTypes.size) (s.fn H (ds ++ gs)).results pr) :
    s.post enc Try.prog f false true false false W args v W' :=
  ⟨_, _, _, pr, pa, pv, hW, hr, ha, hg, hb.frame _, fun h => by cases h⟩
noncomputable def fs65 : Array Field := match Try.prog.underlying 65 with | some (.struct f) => f | _ => #[]
theorem und65 : Try.prog.underlying 65 = some (.struct fs65) := by kernel_rfl
theorem f65_0 : fs65[0]?.map (fun f => (f.offset, f.type)) = some (0, 5) := by kernel_rfl
theorem f65_1 : fs65[1]?.map (fun f => (f.offset, f.type)) = some (1, 3) := by kernel_rfl
theorem c65 : Try.prog.cellsOf 65 = 2 := by kernel_rfl
noncomputable def fs38 : Array Field := match Try.prog.underlying 38 with | some (.struct f) => f | _ => #[]
theorem und38 : Try.prog.underlying 38 = some (.struct fs38) := by kernel_rfl
theorem f38_0 : fs38[0]?.map (fun f => (f.offset, f.type)) = some (0, 3) := by kernel_rfl
theorem f38_1 : fs38[1]?.map (fun f => (f.offset, f.type)) = some (1, 3) := by kernel_rfl
theorem f38_2 : fs38[2]?.map (fun f => (f.offset, f.type)) = some (2, 36) := by kernel_rfl
theorem f38_3 : fs38[3]?.map (fun f => (f.offset, f.type)) = some (3, 3) := by kernel_rfl
theorem c38 : Try.prog.cellsOf 38 = 4 := by kernel_rfl
theorem c36 : Try.prog.cellsOf 36 = 1 := by kernel_rfl
theorem c3 : Try.prog.cellsOf 3 = 1 := by kernel_rfl
theorem c5 : Try.prog.cellsOf 5 = 1 := by kernel_rfl
theorem Try.und5 : Try.prog.underlying 5 = some (.int .u8) := by kernel_rfl
theorem Try.und3 : Try.prog.underlying 3 = some (.int .i64) := by kernel_rfl
theorem Try.u22 : Try.prog.underlying 22 = some (.slice 38) := by kernel_rfl
variable {W : World}
theorem field_at {fs : Array Field} {i o t : Nat} (h : fs[i]?.map (fun f => (f.offset, f.type)) = some (o, t)) : ∃ f, fs[i]? = some f ∧ f.offset = o ∧ f.type = t := by
  cases hf : fs[i]? with
  | none => rw [hf] at h; simp at h
  | some f => rw [hf] at h; simp at h; exact ⟨f, rfl, h.1, h.2⟩
set_option maxRecDepth 100000 in
theorem open_pair {base : Nat} {spare : Nat → Bool} {held : Bool} {fuel : Nat} {cs : List Value} {x : DataW H × List MemPlace} (h : DataW.trod enc Try.prog W base spare held fuel 65 cs = some x) :
    ∃ p : Nat × Int, p.1 < 256 ∧ cs = [.int .u8 (p.1 : Int), .int .i64 p.2] := by
  obtain ⟨xs, n, _, _, hlen, hxl, hf⟩ := DataW.trod_struct und65 h
  rw [c65] at hlen
  match cs, hlen with
  | [u0, u1], _ =>
    obtain ⟨g0, e0, o0, t0⟩ := field_at f65_0
    obtain ⟨g1, e1, o1, t1⟩ := field_at f65_1
    have k0 := hf 0 g0 e0
    have k1 := hf 1 g1 e1
    have hs : xs.length = 2 := by rw [hxl]; kernel_rfl
    rw [o0, t0, c5] at k0
    rw [o1, t1, c3] at k1
    rw [List.getElem?_eq_getElem (by omega)] at k0 k1
    obtain ⟨a, ha, _, wa⟩ := DataW.trod_int Try.und5 k0
    obtain ⟨b, hb, _, wb⟩ := DataW.trod_int Try.und3 k1
    simp at ha hb
    subst ha; subst hb
    have hr : 0 ≤ a ∧ a < 256 := by
      have h := wa
      simp [Lit.wf, IntKind.min, IntKind.max, IntKind.bits, IntKind.signed] at h
      omega
    exact ⟨(a.toNat, b), by show a.toNat < 256; omega, by show _ = [Value.int .u8 (a.toNat : Int), Value.int .i64 b]; rw [Int.toNat_of_nonneg hr.1]⟩
theorem add_add' (a : Addr) (i j : Nat) : (a.add i).add j = a.add (i + j) := by
  obtain ⟨g, o, s⟩ := a
  unfold Addr.add
  repeat' split
  all_goals simp_all
  all_goals omega
theorem choose_lt' {α : Type} [Inhabited α] {n : Nat} {P : Nat → α → Prop} (h : ∀ i, i < n → ∃ a, P i a) : ∃ f : Nat → α, ∀ i, i < n → P i (f i) := by
  refine ⟨fun i => if h1 : i < n then Classical.choose (h i h1) else default, fun i hi => ?_⟩
  simp only [dif_pos hi]
  exact Classical.choose_spec (h i hi)
set_option maxRecDepth 100000 in
theorem view_pairs {v : Value} {fuel : Nat} {y : DataW H × List MemPlace} (hf : DataW.trod enc Try.prog W 0 (fun _ => true) true fuel 36 [v] = some y) :
    ∃ l, LiesO W v l := by
  rcases open_slice Try.u36 hf with ⟨hcs, hx⟩ | ⟨a, len, cap, m, n, D, Pl, hcs, _, hl, hm, hmm, hx, hel⟩
  · injection hcs with hcs _
    subst hcs
    exact ⟨[], none, 0, rfl, by simp, fun _ => rfl, fun b hb => by cases hb⟩
  · injection hcs with hcs _
    subst hcs
    simp only [if_true] at hmm
    subst hmm
    have each : ∀ i, i < len → ∃ p : Nat × Int, p.1 < 256 ∧ W.cell? (a.add (i * 2)) = some (.int .u8 (p.1 : Int)) ∧ W.cell? (a.add (i * 2 + 1)) = some (.int .i64 p.2) := by
      intro i hi
      obtain ⟨cs', hc, ht⟩ := hel i (by omega)
      obtain ⟨p, hp, hcs⟩ := open_pair ht
      rw [c65] at hc
      obtain ⟨_, hcl, hat⟩ := World.cells?_some hc
      refine ⟨p, hp, ?_, ?_⟩
      · have := hat 0 (by omega)
        rw [add_add', hcs] at this
        exact this
      · have := hat 1 (by omega)
        rw [add_add', hcs] at this
        exact this
    obtain ⟨f, hf2⟩ := choose_lt' each
    have hlen : ((List.range len).map f).length = len := by simp
    refine ⟨(List.range len).map f, some a, _, by rw [hlen], by rw [hlen]; unfold maxLen at hm; omega, (fun e => by cases e), fun b hb hne => ?_⟩
    cases hb
    have hpos : 0 < len := by
      rcases Nat.eq_zero_or_pos len with h0 | h0
      · subst h0; exact absurd rfl hne
      · exact h0
    obtain ⟨g, off, spot⟩ := a
    have h00 := (hf2 0 hpos).2.1
    have hspot : spot = none := by simpa [Addr.add] using World.cell?_spot h00
    subst hspot
    have hgl : g < W.heap.size := by simpa [Addr.add_lit] using World.block_lt_of_cell? W _ h00
    refine ⟨g, off, rfl, hgl, fun i p hp => ?_⟩
    have hil : i < len := by
      have := (List.getElem?_eq_some_iff.1 hp).1
      rwa [hlen] at this
    have hfp : f i = p := by simpa [hil] using hp
    have q := hf2 i hil
    rw [hfp, add_addr, add_addr] at q
    rw [Nat.add_assoc]
    exact q
theorem top_pairs {v : Value} {d : DataW H} {ps : List MemPlace} {b0 : Nat} {r : Reach} (hv : Value.okWide Try.prog W r b0 36 v) (h : DataW.Trod enc Try.prog W 0 (fun _ => true) true 36 v d ps) : ∃ l, LiesO W v l := by
  obtain ⟨a0, len, cap, rfl⟩ := okWide_slice Try.u36 hv
  obtain ⟨fuel, hf⟩ := h
  exact view_pairs hf
end
/-- A call of the law's: what kind, of whom, what is known, when. -/
structure Ac where
  kind : Int
  fr : Int
  kv : Value
  kl : List (Nat × Int)
  tm : Int
instance : Inhabited Ac := ⟨⟨0, 0, .bool false, [], 0⟩⟩
/-- A slice of calls. -/
def Acts (W : World) (v : Value) (l : List Ac) : Prop := ∃ ao cap, v = .slice ao l.length cap ∧ l.length ≤ 9223372036854775807 ∧
  ∀ (i : Nat) a, l[i]? = some a → ∃ g o, ao = some ⟨g, o, none⟩ ∧ g < W.heap.size ∧ W.cell? ⟨g, o + i * 4, none⟩ = some (.int .i64 a.kind) ∧ W.cell? ⟨g, o + i * 4 + 1, none⟩ = some (.int .i64 a.fr) ∧
    W.cell? ⟨g, o + i * 4 + 2, none⟩ = some a.kv ∧ LiesO W a.kv a.kl ∧ W.cell? ⟨g, o + i * 4 + 3, none⟩ = some (.int .i64 a.tm)
section
variable {H : Type} {enc : TypeId × Value → H} {W : World}
set_option maxRecDepth 100000 in
theorem open_act {fuel : Nat} {cs : List Value} {x : DataW H × List MemPlace} (h : DataW.trod enc Try.prog W 0 (fun _ => true) true fuel 38 cs = some x) :
    ∃ a : Ac, cs = [.int .i64 a.kind, .int .i64 a.fr, a.kv, .int .i64 a.tm] ∧ LiesO W a.kv a.kl := by
  obtain ⟨xs, n, _, _, hlen, hxl, hf⟩ := DataW.trod_struct und38 h
  rw [c38] at hlen
  match cs, hlen with
  | [u0, u1, u2, u3], _ =>
    obtain ⟨g0, e0, o0, t0⟩ := field_at f38_0
    obtain ⟨g1, e1, o1, t1⟩ := field_at f38_1
    obtain ⟨g2, e2, o2, t2⟩ := field_at f38_2
    obtain ⟨g3, e3, o3, t3⟩ := field_at f38_3
    have k0 := hf 0 g0 e0
    have k1 := hf 1 g1 e1
    have k2 := hf 2 g2 e2
    have k3 := hf 3 g3 e3
    have hs : xs.length = 4 := by rw [hxl]; kernel_rfl
    rw [o0, t0, c3] at k0
    rw [o1, t1, c3] at k1
    rw [o2, t2, c36] at k2
    rw [o3, t3, c3] at k3
    rw [List.getElem?_eq_getElem (by omega)] at k0 k1 k2 k3
    obtain ⟨a, ha, _, _⟩ := DataW.trod_int Try.und3 k0
    obtain ⟨b, hb, _, _⟩ := DataW.trod_int Try.und3 k1
    obtain ⟨d, hd, _, _⟩ := DataW.trod_int Try.und3 k3
    obtain ⟨l, hl⟩ := view_pairs (v := u2) k2
    simp at ha hb hd
    subst ha; subst hb; subst hd
    exact ⟨⟨a, b, u2, l, d⟩, rfl, hl⟩
set_option maxRecDepth 100000 in
theorem view_acts {v : Value} {d : DataW H} {ps : List MemPlace} {b0 : Nat} {r : Reach} (hv : Value.okWide Try.prog W r b0 22 v) (h : DataW.Trod enc Try.prog W 0 (fun _ => true) true 22 v d ps) :
    ∃ l, Acts W v l := by
  obtain ⟨a0, len, cap, rfl⟩ := okWide_slice Try.u22 hv
  obtain ⟨fuel, hf⟩ := h
  rcases open_slice Try.u22 hf with ⟨hcs, hx⟩ | ⟨a, len', cap', m, n, D, Pl, hcs, _, hl, hm, hmm, hx, hel⟩
  · simp [Value.cells] at hcs
    obtain ⟨rfl, rfl, rfl⟩ := hcs
    exact ⟨[], none, 0, rfl, by simp, fun i a h => by simp at h⟩
  · simp [Value.cells] at hcs
    obtain ⟨rfl, rfl, rfl⟩ := hcs
    simp only [if_true] at hmm
    subst hmm
    have each : ∀ i, i < len → ∃ p : Ac, W.cell? (a.add (i * 4)) = some (.int .i64 p.kind) ∧ W.cell? (a.add (i * 4 + 1)) = some (.int .i64 p.fr) ∧ W.cell? (a.add (i * 4 + 2)) = some p.kv ∧ LiesO W p.kv p.kl ∧ W.cell? (a.add (i * 4 + 3)) = some (.int .i64 p.tm) := by
      intro i hi
      obtain ⟨cs', hc, ht⟩ := hel i (by omega)
      obtain ⟨p, hcs, hp⟩ := open_act ht
      rw [c38] at hc
      obtain ⟨_, hcl, hat⟩ := World.cells?_some hc
      refine ⟨p, ?_, ?_, ?_, hp, ?_⟩
      · have := hat 0 (by omega)
        rw [add_add', hcs] at this
        exact this
      · have := hat 1 (by omega)
        rw [add_add', hcs] at this
        exact this
      · have := hat 2 (by omega)
        rw [add_add', hcs] at this
        exact this
      · have := hat 3 (by omega)
        rw [add_add', hcs] at this
        exact this
    obtain ⟨f, hf2⟩ := choose_lt' each
    have hlen : ((List.range len).map f).length = len := by simp
    refine ⟨(List.range len).map f, some a, _, by rw [hlen], by rw [hlen]; unfold maxLen at hm; omega, fun i p hp => ?_⟩
    have hil : i < len := by
      have := (List.getElem?_eq_some_iff.1 hp).1
      rwa [hlen] at this
    obtain ⟨g, off, spot⟩ := a
    have h00 := (hf2 0 (by omega)).1
    have hspot : spot = none := by simpa [Addr.add] using World.cell?_spot h00
    subst hspot
    have hgl : g < W.heap.size := by simpa [Addr.add_lit] using World.block_lt_of_cell? W _ h00
    have hfp : f i = p := by simpa [hil] using hp
    have q := hf2 i hil
    rw [hfp, add_addr, add_addr, add_addr, add_addr] at q
    refine ⟨g, off, rfl, hgl, ?_⟩
    rw [Nat.add_assoc, Nat.add_assoc, Nat.add_assoc]
    exact q
end
end Go.Proofs.Ytgemlkccdcbpdaa
