/- The ends of vec's tied rows: what the laid tables give, a world that meets them, a slice of the law's pairs opened, the shape of the world handed on. -/
import Derived.Test.YtiljmkglmanddaaDoorVY
import Derived.Test.YtiljmkglmanddaaDoorVM
import Derived.Test.YtiljmkglmanddaaDoorCards
import Derived.Test.YtiljmkglmanddaaDoorTie
import Derived.ProofKit
import Derived.LaidMore
import Derived.OpenShut
import Derived.Stop.Joined
import Derived.SevenTiedAt
import Derived.Carry
import Derived.Lib.SmallJoins
import Derived.Deep.Slices
import Derived.Shelf.Vars
import Derived.Lay
set_option linter.unusedVariables false
namespace Go.Proofs.YtiljmkglmanddaaDoor
open Go.ChangeShapes Go.WideShapes Go.ChangeAt Go.RowKit Go.Joins Go.Deep

theorem Tryd.own : ownKnob Tryd.prog.godebug = none := by kernel_rfl
theorem Tryd.laidOut : laidOutB Tryd.prog = true := by kernel_rfl
abbrev laid5 : List (String × DataW Unit) := [("math/bits.deBruijn32tab", Rows.laid_math_bits_deBruijn32tab), ("math/bits.deBruijn64tab", Rows.laid_math_bits_deBruijn64tab), ("internal/strconv.uint64pow10", Rows.laid_internal_strconv_uint64pow10), ("unicode/utf8.acceptRanges", Rows.laid_unicode_utf8_acceptRanges), ("unicode/utf8.first", Rows.laid_unicode_utf8_first)]
theorem gPow : Tryd.prog.globalNamed "internal/strconv.uint64pow10" = some 3 := by kernel_rfl
theorem tPow : ∃ t n e, (Tryd.prog.globals[3]?).map (·.type) = some t ∧ Tryd.prog.underlying t = some (.array n e) ∧ Tryd.prog.underlying e = some (.int .u64) ∧ Tryd.prog.cellsOf e = 1 ∧ Tryd.prog.cellsOf t = n := by
  exact ⟨109, 20, 96, by kernel_rfl, by kernel_rfl, by kernel_rfl, by kernel_rfl, by kernel_rfl⟩
theorem tab_of_laid {W : World} (h : laidMetH Tryd.prog laid5 W) : Tab W := by
  rw [MakeChecks.laidMetH_plain _ _ _ (by kernel_rfl)] at h
  obtain ⟨ps, ⟨g0, t0, cs0, f0, p0, q0, hg0, ht0, hv0, hd0, ⟨g1, t1, cs1, f1, p1, q1, hg1, ht1, hv1, hd1, ⟨g2, t2, cs2, f2, p2, q2, hg2, ht2, hv2, hd2, _, _⟩, _⟩, _⟩, _, _⟩ := h
  obtain rfl := Option.some.inj (gPow.symm.trans hg2)
  obtain ⟨t, n, e, e1, e2, e3, e4, e5⟩ := tPow
  obtain rfl := Option.some.inj (e1.symm.trans ht2)
  have := Lib.cells_of_tab (zs := Lib.pow10Tab) e2 e3 e4 e5 hd2
  unfold Tab Lib.TabIs
  rw [hv2, ← this]
theorem most_of_shape {W : World} (h : W.ShapedOpen Tryd.prog) : ∃ m, W.cell? ⟨0, 0, none⟩ = some (.int .i64 m) :=
  cell_of_shapedOpen_int (zero := #[.int .i64 0]) (t := 3) h (of_decide_eq_true (by kernel_rfl)) (by kernel_rfl) rfl (by kernel_rfl) (by kernel_rfl) (by kernel_rfl)

section
variable {H : Type} {enc : TypeId × Value → H}
theorem handed_both {C : Checked} {os : Os} {f : FuncId} {fn : Func} {s : ChangeSpec} {a : Assume} {cs : List PathCond} {ap fr ho ag : Bool} {X : World → Array Value → Prop}
    (hX : ∀ (w w' : World) (args : Array Value), w.heap = w'.heap → X w args → X w' args)
    (own : ownKnob C.prog.godebug = none) (st : os.Started) (ni : C.prog.inits.idxOf? f = none) (hfn : C.prog.funcs[f]? = some fn)
    (wit : ∃ (w : World) (tape : Tape) (i : Input), w.os = os ∧ (w.forCall tape i).Shaped C.prog ∧ i.vars = [] ∧ Input.okWide C.prog (w.forCall tape i) .any w.heap.size f i ∧
      ((s.pre enc C.prog fn cs ap (w.forCall tape i).memory i.args ∧ X (w.forCall tape i).memory i.args) ∧ sizedMet enc C.prog fn (OpenSpec.ofChange s) ap (w.forCall tape i).memory i.args) ∧ a.holds C.prog (lone (Frame.enter C.prog f i.args .normal) [] (w.forCall tape i)))
    (con : ∀ (W : World) (base : Nat) (args : Array Value) (ds gs : List (DataW H)) (ps : List MemPlace), (∀ (j : Nat) t v, fn.params[j]? = some t → args[j]? = some v → Value.okWide C.prog W .any base t v) →
      DataW.Whole enc C.prog fn.params.toList s.vars ap W args.toList ds gs ps → X W args → W.ShapedOpen C.prog →
      Calls C.prog f args W fun e W' => ∃ v, e = .returned v ∧ s.post enc C.prog fn ap fr ho ag W args v W') :
    ReturnsInHanded a C os f .any (fun w args => (s.pre enc C.prog fn cs ap w args ∧ X w args) ∧ sizedMet enc C.prog fn (OpenSpec.ofChange s) ap w args) (s.post enc C.prog fn ap fr ho ag) := by
  refine returnsInHanded_of_calls own st ni wit ?_
  rintro w tape i - hsh - ⟨_, _, _, fn', hf', _, _, _, _, hval⟩ ⟨⟨⟨ds, gs, ps, hw, hc⟩, hx⟩, hz⟩ -
  obtain rfl : fn' = fn := Option.some.inj (hf'.symm.trans hfn)
  refine (con (w.forCall tape i) w.heap.size i.args ds gs ps hval (DataW.Whole.of_heap (w' := w.forCall tape i) (by rfl) hw) (hX _ _ _ (by rfl) hx) hsh).mono ?_
  rintro e W' ⟨v, rfl, hp⟩
  exact ChangeSpec.post_blind hp
theorem post_read {f : Func} {s : ChangeSpec} {W W' : World} {args : Array Value} {v : Value} {ds gs : List (DataW H)} {ps pa pv pr : List MemPlace}
    (hW : DataW.Whole enc Tryd.prog f.params.toList s.vars false W args.toList ds gs ps) (hb : Below W.heap.size W W')
    (ha : DataW.TrodAll enc Tryd.prog W' 0 (fun b => decide (b < W.heap.size)) true f.params.toList args.toList (s.fn H (ds ++ gs)).args pa)
    (hg : DataW.TrodVars enc Tryd.prog W' (fun b => decide (b < W.heap.size)) s.vars (s.fn H (ds ++ gs)).vars pv)
    (hr : DataW.TrodAll enc Tryd.prog W' W.heap.size (fun _ => false) false f.resultTypes.toList (v.resultList f.resultTypes.size) (s.fn H (ds ++ gs)).results pr) :
    s.post enc Tryd.prog f false true false false W args v W' :=
  ⟨_, _, _, pr, pa, pv, hW, hr, ha, hg, hb.frame _, fun h => by cases h⟩

noncomputable def fs59 : Array Field := match Tryd.prog.underlying 59 with | some (.struct f) => f | _ => #[]
theorem und59 : Tryd.prog.underlying 59 = some (.struct fs59) := by kernel_rfl
theorem f59_0 : fs59[0]?.map (fun f => (f.offset, f.type)) = some (0, 5) := by kernel_rfl
theorem f59_1 : fs59[1]?.map (fun f => (f.offset, f.type)) = some (1, 3) := by kernel_rfl
theorem c59 : Tryd.prog.cellsOf 59 = 2 := by kernel_rfl
theorem c3 : Tryd.prog.cellsOf 3 = 1 := by kernel_rfl
theorem c5 : Tryd.prog.cellsOf 5 = 1 := by kernel_rfl
theorem Tryd.und5 : Tryd.prog.underlying 5 = some (.int .u8) := by kernel_rfl
variable {W : World}
theorem field_at {fs : Array Field} {i o t : Nat} (h : fs[i]?.map (fun f => (f.offset, f.type)) = some (o, t)) : ∃ f, fs[i]? = some f ∧ f.offset = o ∧ f.type = t := by
  cases hf : fs[i]? with
  | none => rw [hf] at h; simp at h
  | some f => rw [hf] at h; simp at h; exact ⟨f, rfl, h.1, h.2⟩
set_option maxRecDepth 100000 in
theorem open_pair {base : Nat} {spare : Nat → Bool} {held : Bool} {fuel : Nat} {cs : List Value} {x : DataW H × List MemPlace} (h : DataW.trod enc Tryd.prog W base spare held fuel 59 cs = some x) :
    ∃ p : Nat × Int, p.1 < 256 ∧ cs = [.int .u8 (p.1 : Int), .int .i64 p.2] := by
  obtain ⟨xs, n, _, _, hlen, hxl, hf⟩ := DataW.trod_struct und59 h
  rw [c59] at hlen
  match cs, hlen with
  | [u0, u1], _ =>
    obtain ⟨g0, e0, o0, t0⟩ := field_at f59_0
    obtain ⟨g1, e1, o1, t1⟩ := field_at f59_1
    have k0 := hf 0 g0 e0
    have k1 := hf 1 g1 e1
    have hs : xs.length = 2 := by rw [hxl]; kernel_rfl
    rw [o0, t0, c5] at k0
    rw [o1, t1, c3] at k1
    rw [List.getElem?_eq_getElem (by omega)] at k0 k1
    obtain ⟨a, ha, _, wa⟩ := DataW.trod_int Tryd.und5 k0
    obtain ⟨b, hb, _, wb⟩ := DataW.trod_int Tryd.underlying3 k1
    simp at ha hb
    subst ha; subst hb
    have hr : 0 ≤ a ∧ a < 256 := by
      have h := wa
      simp [Lit.wf, IntKind.min, IntKind.max, IntKind.bits, IntKind.signed] at h
      omega
    exact ⟨(a.toNat, b), by show a.toNat < 256; omega, by show _ = [Value.int .u8 (a.toNat : Int), Value.int .i64 b]; rw [Int.toNat_of_nonneg hr.1]⟩
theorem add_add' (a : Addr) (i j : Nat) : (a.add i).add j = a.add (i + j) := by
  obtain ⟨g, o, s⟩ := a
  unfold Addr.add
  repeat' split
  all_goals simp_all
  all_goals omega
theorem choose_lt' {α : Type} [Inhabited α] {n : Nat} {P : Nat → α → Prop} (h : ∀ i, i < n → ∃ a, P i a) : ∃ f : Nat → α, ∀ i, i < n → P i (f i) := by
  refine ⟨fun i => if h1 : i < n then Classical.choose (h i h1) else default, fun i hi => ?_⟩
  simp only [dif_pos hi]
  exact Classical.choose_spec (h i hi)
set_option maxRecDepth 100000 in
theorem view_pairs {v : Value} {d : DataW H} {ps : List MemPlace} {b0 : Nat} {r : Reach} (hv : Value.okWide Tryd.prog W r b0 22 v) (h : DataW.Trod enc Tryd.prog W 0 (fun _ => true) true 22 v d ps) :
    ∃ l, LiesO W v l := by
  obtain ⟨a0, len, cap, rfl⟩ := okWide_slice Tryd.u22 hv
  obtain ⟨fuel, hf⟩ := h
  rcases open_slice Tryd.u22 hf with ⟨hcs, hx⟩ | ⟨a, len', cap', m, n, D, Pl, hcs, _, hl, hm, hmm, hx, hel⟩
  · simp [Value.cells] at hcs
    obtain ⟨rfl, rfl, rfl⟩ := hcs
    exact ⟨[], none, 0, rfl, by simp, fun _ => rfl, fun b hb => by cases hb⟩
  · simp [Value.cells] at hcs
    obtain ⟨rfl, rfl, rfl⟩ := hcs
    simp only [if_true] at hmm
    subst hmm
    have each : ∀ i, i < len → ∃ p : Nat × Int, p.1 < 256 ∧ W.cell? (a.add (i * 2)) = some (.int .u8 (p.1 : Int)) ∧ W.cell? (a.add (i * 2 + 1)) = some (.int .i64 p.2) := by
      intro i hi
      obtain ⟨cs', hc, ht⟩ := hel i (by omega)
      obtain ⟨p, hp, hcs⟩ := open_pair ht
      rw [c59] at hc
      obtain ⟨_, hcl, hat⟩ := World.cells?_some hc
      refine ⟨p, hp, ?_, ?_⟩
      · have := hat 0 (by omega)
        rw [add_add', hcs] at this
        exact this
      · have := hat 1 (by omega)
        rw [add_add', hcs] at this
        exact this
    obtain ⟨f, hf2⟩ := choose_lt' each
    have hlen : ((List.range len).map f).length = len := by simp
    refine ⟨(List.range len).map f, some a, _, by rw [hlen], by rw [hlen]; unfold maxLen at hm; omega, (fun e => by cases e), fun b hb hne => ?_⟩
    cases hb
    have hpos : 0 < len := by
      rcases Nat.eq_zero_or_pos len with h0 | h0
      · subst h0; exact absurd rfl hne
      · exact h0
    obtain ⟨g, off, spot⟩ := a
    have h00 := (hf2 0 hpos).2.1
    have hspot : spot = none := by simpa [Addr.add] using World.cell?_spot h00
    subst hspot
    have hgl : g < W.heap.size := by simpa [Addr.add_lit] using World.block_lt_of_cell? W _ h00
    refine ⟨g, off, rfl, hgl, fun i p hp => ?_⟩
    have hil : i < len := by
      have := (List.getElem?_eq_some_iff.1 hp).1
      rwa [hlen] at this
    have hfp : f i = p := by simpa [hil] using hp
    have q := hf2 i hil
    rw [hfp, add_addr, add_addr] at q
    rw [Nat.add_assoc]
    exact q
end
end Go.Proofs.YtiljmkglmanddaaDoor
