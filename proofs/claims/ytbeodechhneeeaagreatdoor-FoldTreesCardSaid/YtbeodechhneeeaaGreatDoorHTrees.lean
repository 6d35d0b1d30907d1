/- FoldTrees returns true for every input. The row lists three tables of the library with what they hold; the card ties them to the program's text (the pruned copy that the seat's roots load). -/
import Derived.Test.YtbeodechhneeeaaGreatDoorFJ
import Derived.ProofKit
import Derived.LaidMore
import Derived.OpenShut
import Derived.Stop.Joined
import Derived.SevenTiedAt
import Derived.Carry
import Derived.Lib.SmallJoins
import Derived.Deep.Slices
import Derived.Shelf.Vars
import Derived.Lay
import Derived.Test.YtbeodechhneeeaaGreatDoorGF
import Derived.Test.YtbeodechhneeeaaGreatDoorCards
import Derived.Test.YtbeodechhneeeaaGreatDoorTie
set_option linter.unusedVariables false
namespace Go.Proofs.YtbeodechhneeeaaGreatDoor
open Tb (LiesK)
open Go.ChangeShapes Go.WideShapes Go.ChangeAt Go.RowKit Go.Joins Go.Deep

/-- An op that came in. -/
def OkV (o : O) : Prop := OkO o ∧ o.nm.size ≤ 9223372036854775807
theorem Tryz.laidOut : laidOutB Tryz.prog = true := by kernel_rfl
theorem Tryz.own : ownKnob Tryz.prog.godebug = none := by kernel_rfl
section
variable {H : Type} {enc : TypeId × Value → H}
theorem post_read {f : Func} {s : ChangeSpec} {W W' : World} {args : Array Value} {v : Value} {ds gs : List (DataW H)} {ps pa pv pr : List MemPlace}
    (hW : DataW.Whole enc Tryz.prog f.params.toList s.vars false W args.toList ds gs ps) (hb : Below W.heap.size W W')
    (ha : DataW.TrodAll enc Tryz.prog W' 0 (fun b => decide (b < W.heap.size)) true f.params.toList args.toList (s.fn H (ds ++ gs)).args pa)
    (hg : DataW.TrodVars enc Tryz.prog W' (fun b => decide (b < W.heap.size)) s.vars (s.fn H (ds ++ gs)).vars pv)
    (hr : DataW.TrodAll enc Tryz.prog W' W.heap.size (fun _ => false) false f.resultTypes.toList (v.resultList f.resultTypes.size) (s.fn H (ds ++ gs)).results pr) :
    s.post enc Tryz.prog f false true false false W args v W' :=
  ⟨_, _, _, pr, pa, pv, hW, hr, ha, hg, hb.frame _, fun h => by cases h⟩
end
section
variable {H : Type} {enc : TypeId × Value → H}
theorem handed_both {C : Checked} {os : Os} {f : FuncId} {fn : Func} {s : ChangeSpec} {a : Assume} {cs : List PathCond} {ap fr ho ag : Bool} {X : World → Array Value → Prop}
    (hX : ∀ (w w' : World) (args : Array Value), w.heap = w'.heap → X w args → X w' args)
    (own : ownKnob C.prog.godebug = none) (st : os.Started) (ni : C.prog.inits.idxOf? f = none) (hfn : C.prog.funcs[f]? = some fn)
    (wit : ∃ (w : World) (tape : Tape) (i : Input), w.os = os ∧ (w.forCall tape i).Shaped C.prog ∧ i.vars = [] ∧ Input.okWide C.prog (w.forCall tape i) .any w.heap.size f i ∧
      ((s.pre enc C.prog fn cs ap (w.forCall tape i).memory i.args ∧ X (w.forCall tape i).memory i.args) ∧ sizedMet enc C.prog fn (OpenSpec.ofChange s) ap (w.forCall tape i).memory i.args) ∧ a.holds C.prog (lone (Frame.enter C.prog f i.args .normal) [] (w.forCall tape i)))
    (con : ∀ (W : World) (base : Nat) (args : Array Value) (ds gs : List (DataW H)) (ps : List MemPlace), (∀ (j : Nat) t v, fn.params[j]? = some t → args[j]? = some v → Value.okWide C.prog W .any base t v) →
      DataW.Whole enc C.prog fn.params.toList s.vars ap W args.toList ds gs ps → X W args → W.ShapedOpen C.prog →
      Calls C.prog f args W fun e W' => ∃ v, e = .returned v ∧ s.post enc C.prog fn ap fr ho ag W args v W') :
    ReturnsInHanded a C os f .any (fun w args => (s.pre enc C.prog fn cs ap w args ∧ X w args) ∧ sizedMet enc C.prog fn (OpenSpec.ofChange s) ap w args) (s.post enc C.prog fn ap fr ho ag) := by
  refine returnsInHanded_of_calls own st ni wit ?_
  rintro w tape i - hsh - ⟨_, _, _, fn', hf', _, _, _, _, hval⟩ ⟨⟨⟨ds, gs, ps, hw, hc⟩, hx⟩, hz⟩ -
  obtain rfl : fn' = fn := Option.some.inj (hf'.symm.trans hfn)
  refine (con (w.forCall tape i) w.heap.size i.args ds gs ps hval (DataW.Whole.of_heap (w' := w.forCall tape i) (by rfl) hw) (hX _ _ _ (by rfl) hx) hsh).mono ?_
  rintro e W' ⟨v, rfl, hp⟩
  exact ChangeSpec.post_blind hp
end
abbrev laid3 : List (String × DataW Unit) := [("math/bits.deBruijn32tab", Rows.laid_math_bits_deBruijn32tab), ("math/bits.deBruijn64tab", Rows.laid_math_bits_deBruijn64tab), ("internal/strconv.uint64pow10", Rows.laid_internal_strconv_uint64pow10)]
theorem end_add (a : Addr) (i j : Nat) : (a.add i).add j = a.add (i + j) := by
  obtain ⟨g, o, s⟩ := a
  unfold Addr.add
  repeat' split
  all_goals simp_all
  all_goals omega
theorem end_addr (k o j : Nat) : (⟨k, o, none⟩ : Addr).add j = ⟨k, o + j, none⟩ := by
  unfold Addr.add
  repeat' split
  all_goals simp_all
theorem end_choose {α : Type} [Inhabited α] {n : Nat} {P : Nat → α → Prop} (h : ∀ i, i < n → ∃ a, P i a) : ∃ f : Nat → α, ∀ i, i < n → P i (f i) := by
  refine ⟨fun i => if h1 : i < n then Classical.choose (h i h1) else default, fun i hi => ?_⟩
  simp only [dif_pos hi]
  exact Classical.choose_spec (h i hi)
theorem field_at {fs : Array Field} {i o t : Nat} (h : fs[i]?.map (fun f => (f.offset, f.type)) = some (o, t)) : ∃ f, fs[i]? = some f ∧ f.offset = o ∧ f.type = t := by
  cases hf : fs[i]? with
  | none => rw [hf] at h; simp at h
  | some f => rw [hf] at h; simp at h; exact ⟨f, rfl, h.1, h.2⟩
set_option maxRecDepth 100000 in
/-- A slice that came in, its elements opened one by one. -/
theorem view_slice {H : Type} {enc : TypeId × Value → H} {W : World} {α : Type} [Inhabited α] {t e : TypeId} {size : Nat} (hu : Tryz.prog.underlying t = some (.slice e)) (hce : Tryz.prog.cellsOf e = size) (hs : 0 < size) (Q : α → Prop) (en : α → List Value)
    (op : ∀ {fuel : Nat} {cs : List Value} {x : DataW H × List MemPlace}, DataW.trod enc Tryz.prog W 0 (fun _ => true) true fuel e cs = some x → ∃ p, Q p ∧ cs = en p)
    {v : Value} {d : DataW H} {ps : List MemPlace} {b0 : Nat} {r : Go.Reach} (hv : Value.okWide Tryz.prog W r b0 t v) (h : DataW.Trod enc Tryz.prog W 0 (fun _ => true) true t v d ps) :
    ∃ ao cap l, v = .slice ao l.length cap ∧ l.length ≤ cap ∧ cap ≤ maxLen ∧ (ao = none → l = [] ∧ cap = 0) ∧ (∀ b, ao = some b → l ≠ [] → ∃ g k, b = ⟨g, k, none⟩ ∧ g < W.heap.size ∧ ∀ (j : Nat) (p : α), l[j]? = some p → ∀ (i : Nat) (u : Value), (en p)[i]? = some u → W.cell? ⟨g, k + j * size + i, none⟩ = some u) ∧ ∀ p ∈ l, Q p := by
  obtain ⟨a0, len, cap, rfl⟩ := okWide_slice hu hv
  obtain ⟨fuel, hf⟩ := h
  rcases open_slice hu hf with ⟨hcs, hx⟩ | ⟨a, len', cap', m, n, D, Pl, hcs, _, hl, hm, hmm, hx, hel⟩
  · simp [Value.cells] at hcs
    obtain ⟨rfl, rfl, rfl⟩ := hcs
    exact ⟨none, 0, [], rfl, Nat.le_refl _, Nat.zero_le _, fun _ => ⟨rfl, rfl⟩, (fun b hb => by cases hb), (fun p hp => by cases hp)⟩
  · simp [Value.cells] at hcs
    obtain ⟨rfl, rfl, rfl⟩ := hcs
    simp only [if_true] at hmm
    subst hmm
    have each : ∀ i, i < len → ∃ p : α, Q p ∧ ∀ (r : Nat) (u : Value), (en p)[r]? = some u → W.cell? (a.add (i * size + r)) = some u := by
      intro i hi
      obtain ⟨cs', hc, ht⟩ := hel i (by omega)
      obtain ⟨p, hp, hcs⟩ := op ht
      rw [hce] at hc
      obtain ⟨_, hcl, hat⟩ := World.cells?_some hc
      refine ⟨p, hp, fun r u hr => ?_⟩
      have hrl : r < (en p).length := (List.getElem?_eq_some_iff.1 hr).1
      have hlen : cs'.length = size := by first | exact hcl | (rw [← hcl]) | simpa using hcl
      have := hat r (by rw [← hcs, hlen] at hrl; exact hrl)
      rw [end_add, hcs, hr] at this
      exact this
    obtain ⟨f, hf2⟩ := end_choose each
    have hlen : ((List.range len).map f).length = len := by simp
    refine ⟨some a, _, (List.range len).map f, by rw [hlen], by rw [hlen]; exact hl, hm, (fun e => by cases e), fun b hb hne => ?_, fun p hp => ?_⟩
    rotate_left 1
    · obtain ⟨i, hi, rfl⟩ := List.mem_map.1 hp
      exact (hf2 i (List.mem_range.1 hi)).1
    cases hb
    have hpos : 0 < len := by
      rcases Nat.eq_zero_or_pos len with h0 | h0
      · subst h0; exact absurd rfl hne
      · exact h0
    obtain ⟨g, off, spot⟩ := a
    have h00 : ∃ u, W.cell? (⟨g, off, spot⟩ : Addr) = some u := by
      obtain ⟨cs', hc, ht⟩ := hel 0 (by omega)
      rw [hce] at hc
      obtain ⟨_, hcl, hat⟩ := World.cells?_some hc
      have hlen2 : cs'.length = size := by first | exact hcl | (rw [← hcl]) | simpa using hcl
      have h0 := hat 0 (by omega)
      rw [end_add] at h0
      have hz : (⟨g, off, spot⟩ : Addr).add (0 * size + 0) = ⟨g, off, spot⟩ := by simp [Addr.add]; try (cases spot <;> simp)
      rw [hz] at h0
      exact ⟨_, h0.trans (List.getElem?_eq_getElem (by omega))⟩
    obtain ⟨u00, h00⟩ := h00
    have hspot : spot = none := by simpa using World.cell?_spot h00
    subst hspot
    have hgl : g < W.heap.size := by simpa using World.block_lt_of_cell? W _ h00
    refine ⟨g, off, rfl, hgl, fun j p hp i u hi => ?_⟩
    have hil : j < len := by
      have := (List.getElem?_eq_some_iff.1 hp).1
      rwa [hlen] at this
    have hfp : f j = p := by simpa [hil] using hp
    have q := (hf2 j hil).2 i u (by rw [hfp]; exact hi)
    rw [end_addr] at q
    rw [Nat.add_assoc]
    exact q
noncomputable def fs31 : Array Field := match Tryz.prog.underlying 31 with | some (.struct f) => f | _ => #[]
theorem und31 : Tryz.prog.underlying 31 = some (.struct fs31) := by kernel_rfl
theorem cel31 : Tryz.prog.cellsOf 31 = 2 := by kernel_rfl
theorem f31_0 : fs31[0]?.map (fun f => (f.offset, f.type)) = some (0, 3) := by kernel_rfl
theorem f31_1 : fs31[1]?.map (fun f => (f.offset, f.type)) = some (1, 3) := by kernel_rfl
set_option maxRecDepth 100000 in
theorem open_st {H : Type} {enc : TypeId × Value → H} {W : World} {base : Nat} {spare : Nat → Bool} {held : Bool} {fuel : Nat} {cs : List Value} {x : DataW H × List MemPlace} (h : DataW.trod enc Tryz.prog W base spare held fuel 31 cs = some x) :
    ∃ p : Int × Int, (Tb.I64 p.1 ∧ Tb.I64 p.2) ∧ cs = [Value.int .i64 p.1, .int .i64 p.2] := by
  obtain ⟨xs, n, _, _, hlen, hxl, hf⟩ := DataW.trod_struct und31 h
  rw [cel31] at hlen
  match cs, hlen with
  | [u0_, u1_], _ =>
    obtain ⟨g0, e0, o0, t0⟩ := field_at f31_0
    have k0 := hf 0 g0 e0
    obtain ⟨g1, e1, o1, t1⟩ := field_at f31_1
    have k1 := hf 1 g1 e1
    have hs : xs.length = 2 := by rw [hxl]; kernel_rfl
    rw [o0, t0, (show Tryz.prog.cellsOf 3 = 1 by kernel_rfl), List.getElem?_eq_getElem (by omega)] at k0
    obtain ⟨a0, ha0, _, w0⟩ := DataW.trod_int (show Tryz.prog.underlying 3 = some (.int .i64) by kernel_rfl) k0
    have w0 : a0 ≤ 9223372036854775807 ∧ -9223372036854775808 ≤ a0 := by have h := w0; simp [Lit.wf, IntKind.min, IntKind.max, IntKind.bits, IntKind.signed] at h; omega
    simp at ha0
    rw [o1, t1, (show Tryz.prog.cellsOf 3 = 1 by kernel_rfl), List.getElem?_eq_getElem (by omega)] at k1
    obtain ⟨a1, ha1, _, w1⟩ := DataW.trod_int (show Tryz.prog.underlying 3 = some (.int .i64) by kernel_rfl) k1
    have w1 : a1 ≤ 9223372036854775807 ∧ -9223372036854775808 ≤ a1 := by have h := w1; simp [Lit.wf, IntKind.min, IntKind.max, IntKind.bits, IntKind.signed] at h; omega
    simp at ha1
    refine ⟨(a0, a1), ⟨⟨w0.2, w0.1⟩, ⟨w1.2, w1.1⟩⟩, ?_⟩
    simp [*]
noncomputable def fs33 : Array Field := match Tryz.prog.underlying 33 with | some (.struct f) => f | _ => #[]
theorem und33 : Tryz.prog.underlying 33 = some (.struct fs33) := by kernel_rfl
theorem cel33 : Tryz.prog.cellsOf 33 = 9 := by kernel_rfl
theorem f33_0 : fs33[0]?.map (fun f => (f.offset, f.type)) = some (0, 31) := by kernel_rfl
theorem f33_1 : fs33[1]?.map (fun f => (f.offset, f.type)) = some (2, 3) := by kernel_rfl
theorem f33_2 : fs33[2]?.map (fun f => (f.offset, f.type)) = some (3, 31) := by kernel_rfl
theorem f33_3 : fs33[3]?.map (fun f => (f.offset, f.type)) = some (5, 31) := by kernel_rfl
theorem f33_4 : fs33[4]?.map (fun f => (f.offset, f.type)) = some (7, 9) := by kernel_rfl
theorem f33_5 : fs33[5]?.map (fun f => (f.offset, f.type)) = some (8, 4) := by kernel_rfl
set_option maxRecDepth 100000 in
theorem open_op {H : Type} {enc : TypeId × Value → H} {W : World} {base : Nat} {spare : Nat → Bool} {held : Bool} {fuel : Nat} {cs : List Value} {x : DataW H × List MemPlace} (h : DataW.trod enc Tryz.prog W base spare held fuel 33 cs = some x) :
    ∃ p : O, OkV p ∧ cs = oc p := by
  obtain ⟨xs, n, _, _, hlen, hxl, hf⟩ := DataW.trod_struct und33 h
  rw [cel33] at hlen
  match cs, hlen with
  | [u0_, u1_, u2_, u3_, u4_, u5_, u6_, u7_, u8_], _ =>
    obtain ⟨g0, e0, o0, t0⟩ := field_at f33_0
    have k0 := hf 0 g0 e0
    obtain ⟨g1, e1, o1, t1⟩ := field_at f33_1
    have k1 := hf 1 g1 e1
    obtain ⟨g2, e2, o2, t2⟩ := field_at f33_2
    have k2 := hf 2 g2 e2
    obtain ⟨g3, e3, o3, t3⟩ := field_at f33_3
    have k3 := hf 3 g3 e3
    obtain ⟨g4, e4, o4, t4⟩ := field_at f33_4
    have k4 := hf 4 g4 e4
    obtain ⟨g5, e5, o5, t5⟩ := field_at f33_5
    have k5 := hf 5 g5 e5
    have hs : xs.length = 6 := by rw [hxl]; kernel_rfl
    rw [o0, t0, cel31, List.getElem?_eq_getElem (by omega)] at k0
    obtain ⟨a0, w0, ha0⟩ := open_st k0
    simp at ha0
    rw [o1, t1, (show Tryz.prog.cellsOf 3 = 1 by kernel_rfl), List.getElem?_eq_getElem (by omega)] at k1
    obtain ⟨a1, ha1, _, w1⟩ := DataW.trod_int (show Tryz.prog.underlying 3 = some (.int .i64) by kernel_rfl) k1
    have w1 : a1 ≤ 9223372036854775807 ∧ -9223372036854775808 ≤ a1 := by have h := w1; simp [Lit.wf, IntKind.min, IntKind.max, IntKind.bits, IntKind.signed] at h; omega
    simp at ha1
    rw [o2, t2, cel31, List.getElem?_eq_getElem (by omega)] at k2
    obtain ⟨a2, w2, ha2⟩ := open_st k2
    simp at ha2
    rw [o3, t3, cel31, List.getElem?_eq_getElem (by omega)] at k3
    obtain ⟨a3, w3, ha3⟩ := open_st k3
    simp at ha3
    rw [o4, t4, (show Tryz.prog.cellsOf 9 = 1 by kernel_rfl), List.getElem?_eq_getElem (by omega)] at k4
    obtain ⟨a4, ha4, _, w4⟩ := DataW.trod_string (show Tryz.prog.underlying 9 = some .string by kernel_rfl) k4
    simp at ha4
    rw [o5, t5, (show Tryz.prog.cellsOf 4 = 1 by kernel_rfl), List.getElem?_eq_getElem (by omega)] at k5
    obtain ⟨a5, ha5, _⟩ := DataW.trod_bool (show Tryz.prog.underlying 4 = some .bool by kernel_rfl) k5
    simp at ha5
    refine ⟨⟨a0.1, a0.2, a1, a2.1, a2.2, a3.1, a3.2, a4, a5⟩, ⟨⟨w0.1, w0.2, ⟨w1.2, w1.1⟩, w2.1, w2.2, w3.1, w3.2⟩, by have h := w4; unfold maxLen at h; exact h⟩, ?_⟩
    simp [*, oc, oCells]
section
variable {H : Type} {enc : TypeId × Value → H} {W : World}
set_option maxRecDepth 100000 in
theorem view_ops {v : Value} {d : DataW H} {ps : List MemPlace} {b0 : Nat} {r : Go.Reach} (hv : Value.okWide Tryz.prog W r b0 22 v) (h : DataW.Trod enc Tryz.prog W 0 (fun _ => true) true 22 v d ps) :
    ∃ l, OLies W v l ∧ ∀ x ∈ l, OkV x := by
  obtain ⟨ao, cap, l, h1, h2, h3, h4, h5, h6⟩ := view_slice Tryz.u27 cel33 (Nat.succ_pos _) (fun x => OkV x) oc (fun h => open_op h) hv h
  exact ⟨l, ⟨ao, cap, h1, h2, h3, h4, h5⟩, h6⟩
set_option maxRecDepth 100000 in
theorem view_bytes {v : Value} {d : DataW H} {ps : List MemPlace} {b0 : Nat} {r : Go.Reach} (hv : Value.okWide Tryz.prog W r b0 50 v) (h : DataW.Trod enc Tryz.prog W 0 (fun _ => true) true 50 v d ps) :
    ∃ l : List Int, LiesK (fun x => [Value.int .u8 x]) 1 W v l ∧ ∀ x ∈ l, 0 ≤ x ∧ x < 256 := by
  obtain ⟨ao, cap, l, h1, h2, h3, h4, h5, h6⟩ := view_slice (show Tryz.prog.underlying 50 = some (.slice 5) by kernel_rfl) (show Tryz.prog.cellsOf 5 = 1 by kernel_rfl) (Nat.succ_pos _) (fun (x : Int) => 0 ≤ x ∧ x < 256) (fun x => [Value.int .u8 x]) (fun h => by
    obtain ⟨a, ha, _, w⟩ := DataW.trod_int (show Tryz.prog.underlying 5 = some (.int .u8) by kernel_rfl) h
    refine ⟨a, ?_, ha⟩
    simp [Lit.wf, IntKind.min, IntKind.max, IntKind.bits, IntKind.signed] at w
    omega) hv h
  exact ⟨l, ⟨ao, cap, h1, h2, h3, h4, h5⟩, h6⟩
end
end Go.Proofs.YtbeodechhneeeaaGreatDoor

set_option linter.unusedVariables false
namespace Go.Proofs.YtbeodechhneeeaaGreatDoor
open Go.ChangeShapes Go.WideShapes Go.ChangeAt Go.RowKit Go.Joins Go.Deep

set_option maxRecDepth 100000 in
theorem foldTrees_lifted (os : Os) (started : os.Started) (H : Type) (enc : TypeId × Value → H) :
    ReturnsInHanded {} Tryz.checked os 3 .any (fun w args => (Rows.foldTreesSpec.pre enc Tryz.prog Tryz.f3 [] false w args ∧ laidMetH Tryz.prog laid3 w) ∧ sizedMet enc Tryz.prog Tryz.f3 (OpenSpec.ofChange Rows.foldTreesSpec) false w args)
      (Rows.foldTreesSpec.post enc Tryz.prog Tryz.f3 false true false false) := by
  refine handed_both (C := Tryz.checked) (X := fun w _ => laidMetH Tryz.prog laid3 w) (fun _ _ _ hh h => h.of_heap hh) Tryz.own started (by kernel_rfl) Tryz.func3
    (ChangeSpec.witness_shaped (enc := enc) (C := Tryz.checked) (os := os) (X := fun w _ => laidMetH Tryz.prog laid3 w) false (World.laidAll Tryz.prog os laid3) #[.slice none 0 0] 8 (World.laidAll_os _ _ _)
      (World.shaped_of_ZipB (by kernel_rfl) (by kernel_rfl)) (by kernel_rfl) (by kernel_rfl) (by kernel_rfl)
      (by rw [MakeChecks.laidMetH_plain _ _ _ (by kernel_rfl)]; exact laidMet_laidAll _ (by kernel_rfl) (by kernel_rfl))) ?_
  intro W base args ds gs before hval0 hW hL hsh
  have hval : ∀ (j : Nat) t v, Tryz.f3.params[j]? = some t → args[j]? = some v → Value.okWide Tryz.prog W .any base t v := hval0
  have hW' := hW
  obtain ⟨p, q, hA0, hV, rfl, hfz, hnd⟩ := hW
  have hA : DataW.TrodAll enc Tryz.prog W 0 (fun _ => true) true Tryz.f3.params.toList args.toList ds p := hA0
  rw [Tryz.params3] at hA hval
  obtain ⟨v0, d0, rfl, rfl, h0⟩ := trodAll_one hA
  obtain ⟨rfl, rfl⟩ := trodVars_none hV
  obtain ⟨l0, hl0, hk0⟩ := view_ops (hval 0 22 v0 rfl rfl) h0
  clear hA0 hval0
  simp only [List.append_nil] at hW'
  have hlt : ∀ x ∈ p, x.block < W.heap.size := fun x hx => by simpa using hW'.lt x (by simpa using hx)
  refine (trees_law W v0 l0 hl0 (fun x hx => (hk0 x hx).1)).mono fun e W' ⟨he, hb⟩ => ?_
  subst he
  have k0 := Below.trod Tryz.laidOut (by kernel_rfl) (of_decide_eq_true (by kernel_rfl)) h0 hb (fun x hx => hlt x (by simp [hx]))
  exact ⟨_, rfl, post_read hW' hb (trodAll_mk1 k0) rfl (trodAll_mk1 (shut_bool Tryz.underlying4 _))⟩

theorem foldTrees_row : Rows.FoldTreesSaid :=
  OpenClaim.holds_of_wide 3 Tryz.f3 rfl rfl rfl rfl rfl rfl rfl ⟨rfl, rfl, rfl, rfl, rfl⟩ rfl rfl rfl rfl rfl (by kernel_rfl) Tryz.func3 (by kernel_rfl)
    (of_decide_eq_true (by kernel_rfl)) (by unfold Func.isWrapper; first | (rw [if_pos (by decide +kernel)]; kernel_rfl) | (rw [if_neg (by decide +kernel)]; exact ⟨rfl, rfl⟩))
    (fun os started H enc _ => foldTrees_lifted os started H enc)

theorem foldTrees_card : Rows.FoldTreesCardSaid :=
  Claim7.holds_tied_plain_at .later [] [.data, .data, .data] true (true, "4e6810ab48df2d7438cdb017313df1a819d605e97d966c034b874e5537b34042") false
    foldTrees_row (fun _ h => by cases h) (by kernel_rfl) (fun _ h => by cases h) foldTrees_row_tie rfl ⟨rfl, rfl⟩ (by kernel_rfl) rfl
    (fun f fn hf hfn => by
      obtain rfl : f = 3 := Option.some.inj ((show Tryz.prog.funcNamed "banyan/banyanlaw15.FoldTrees" = some 3 by kernel_rfl).symm.trans hf) |>.symm
      obtain rfl : fn = Tryz.f3 := (Option.some.inj (Tryz.func3.symm.trans hfn)).symm
      exact ⟨by kernel_rfl, fun j t ht => by
        rw [Tryz.params3] at ht
        have hm : t ∈ [22] := by simpa using Array.mem_of_getElem? ht
        have hall : ([22].all fun u => !Tryz.prog.wantsStandIn u) = true := by kernel_rfl
        exact (show Tryz.prog.wantsStandIn t = false by simpa using List.all_eq_true.1 hall t hm)⟩)
    (by kernel_rfl)
end Go.Proofs.YtbeodechhneeeaaGreatDoor
