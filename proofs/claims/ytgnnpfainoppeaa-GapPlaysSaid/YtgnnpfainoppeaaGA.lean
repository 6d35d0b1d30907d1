/- A gap's map: keys, what it holds, set, dropped, asked, gone through. Made by genga28.py. -/
import Derived.Test.YtgnnpfainoppeaaGM
import Derived.WalkKit
import Derived.OwnWalk
import Derived.Maps.OwnSet
import Derived.Maps.RangeWalk
import Derived.DeepKeys4
import Derived.KernelRfl
set_option linter.unusedSimpArgs false
set_option linter.unusedVariables false
set_option maxRecDepth 100000
namespace Go.Proofs.Ytgnnpfainoppeaa
open Go.RowKit Go.WideMaps Go.Maps Go.WideShapes Go.ChangeMaps

def I64 (x : Int) : Prop := -9223372036854775808 ≤ x ∧ x ≤ 9223372036854775807
def O.okk (x : O) : Prop := I64 x.r ∧ I64 x.q ∧ True
theorem mem_setG {l : List O} {x y : O} : y ∈ setG l x ↔ y = x ∨ (y ∈ l ∧ eqG y x = false) := by
  unfold setG
  rw [List.mem_append, List.mem_cons, List.mem_filter, List.mem_filter]
  rcases ltg_tri y x with ⟨a, b, c⟩ | ⟨a, b, c⟩ | ⟨a, b, c⟩ <;> simp only [a, b, c] <;> simp
  exact or_comm
theorem set_perm {l : List O} (x : O) : (setG l x).Perm (x :: l.filter (fun y => !eqG y x)) := by
  unfold setG
  refine List.perm_middle.trans (List.Perm.cons _ ?_)
  have h := List.filter_append_perm (fun y => ltG y x) (l.filter (fun y => !eqG y x))
  rw [List.filter_filter, List.filter_filter] at h
  have e1 : (fun y => ltG y x && !eqG y x) = (fun y => ltG y x) := by
    funext y
    rcases ltg_tri y x with ⟨a, b, c⟩ | ⟨a, b, c⟩ | ⟨a, b, c⟩ <;> simp [a, b]
  have e2 : (fun y => (!ltG y x) && !eqG y x) = (fun y => ltG x y) := by
    funext y
    rcases ltg_tri y x with ⟨a, b, c⟩ | ⟨a, b, c⟩ | ⟨a, b, c⟩ <;> simp [a, b, c]
  rw [e1, e2] at h
  exact h
theorem gget_some {l : List O} (h : RiseG l) {t r : Int} {x : O} : getG l t r = some x ↔ x ∈ l ∧ x.r = t ∧ x.q = r := by
  constructor
  · exact get_some
  · rintro ⟨h1, h2, h3⟩
    cases e : getG l t r with
    | none => exact absurd ⟨h2, h3⟩ (get_none e x h1)
    | some y =>
      obtain ⟨a, b, c⟩ := get_some e
      rw [rise_one h a h1 (by unfold eqG; simp [b, c, h2, h3])]
theorem gget_none {l : List O} {t r : Int} : getG l t r = none ↔ ∀ x ∈ l, ¬ (x.r = t ∧ x.q = r) := by
  unfold getG
  rw [List.find?_eq_none]
  unfold isG
  simp
abbrev sv (t r : Int) : Value := .agg #[.int .i64 t, .int .i64 r]
/-! ### the keys -/
theorem Try.laidOut0 : laidOutB Try.prog = true := by kernel_rfl
theorem Try.row72 : 72 < Try.prog.types.size := of_decide_eq_true (by kernel_rfl)
theorem Try.wide72 : (match Try.prog.underlying 72 with | some (.array _ _) | some (.struct _) => true | _ => false) = true := by kernel_rfl
set_option maxRecDepth 100000 in
theorem Try.law72 : KeyLaw Try.prog 72 := deep_law_laid Try.laidOut0 (m := 2) (by omega) Try.row72 (by kernel_rfl) Try.wide72
theorem Try.keyed : Keyed Try.prog 72 := Keyed.of_law Try.law72
noncomputable def fk : Array Field := match Try.prog.underlying 72 with | some (.struct f) => f | _ => #[]
theorem undk : Try.prog.underlying 72 = some (.struct fk) := by kernel_rfl
theorem fk_all : fk.all (·.name != "_") = true := by kernel_rfl
theorem fk_list : ∃ f g, fk.toList = [f, g] ∧ f.offset = 0 ∧ g.offset = 1 ∧ f.type = 3 ∧ g.type = 3 := by
  have h0 : fk[0]?.map (fun f => (f.offset, f.type)) = some (0, 3) := by kernel_rfl
  have h1 : fk[1]?.map (fun f => (f.offset, f.type)) = some (1, 3) := by kernel_rfl
  have hs : fk.size = 2 := by kernel_rfl
  match hl : fk.toList, (show fk.toList.length = 2 from hs) with
  | [f, g], _ =>
    rw [← Array.getElem?_toList, hl] at h0 h1
    simp at h0 h1
    exact ⟨f, g, rfl, h0.1, h1.1, h0.2, h1.2⟩
theorem celk : Try.prog.cellsOf 72 = 2 := by kernel_rfl
theorem cel3 : Try.prog.cellsOf 3 = 1 := by kernel_rfl
theorem keyTk : Try.prog.keyType 72 = true := by kernel_rfl
theorem sizek : ∃ m, Try.prog.types.size = m + 1 := ⟨Try.prog.types.size - 1, by have := Try.row72; omega⟩
theorem wf64 {x : Int} (h : I64 x) : (Lit.int .i64 x).wf = true := WalkArith.wf_i64 h
theorem key_some (t r : Int) (ht : I64 t) (hr : I64 r) : ∃ l, keyOf Try.prog 72 (sv t r) = some l := by
  obtain ⟨f, g, hl, o0, o1, t0, t1⟩ := fk_list
  obtain ⟨m, hm⟩ := sizek
  unfold keyOf
  rw [undk]
  have hf : (sv t r).formed Try.prog 72 = true := by
    unfold Value.formed
    rw [undk, celk]
    rfl
  simp only [keyTk, hf, Bool.and_self, if_true]
  rw [hm]
  unfold Program.keyLits
  rw [undk]
  have hc : (sv t r).cells.toList = [.int .i64 t, .int .i64 r] := rfl
  rw [hc]
  simp only [celk, List.length_cons, List.length_nil, fk_all, and_self, if_true, hl, List.mapM_cons, List.mapM_nil, o0, o1, t0, t1, cel3]
  unfold Program.keyLits
  simp [Try.underlying3, wf64 ht, wf64 hr]
noncomputable def KL (t r : Int) : Lit := (keyOf Try.prog 72 (sv t r)).getD (.bool false)
theorem kl_key {t r : Int} (ht : I64 t) (hr : I64 r) : keyOf Try.prog 72 (sv t r) = some (KL t r) := by
  obtain ⟨l, h⟩ := key_some t r ht hr
  unfold KL
  rw [h]
  rfl
theorem kl_inj {t r t' r' : Int} (ht : I64 t) (hr : I64 r) (ht' : I64 t') (hr' : I64 r') (h : KL t r = KL t' r') : t = t' ∧ r = r' := by
  have a := kl_key ht hr
  have b := kl_key ht' hr'
  rw [← h] at b
  have := Try.keyed.inj a b
  injection this with this
  simpa using this
set_option maxRecDepth 100000 in
theorem kl_lit {t r : Int} (ht : I64 t) (hr : I64 r) : WideAt.IsKeyLit (KL t r) := Try.keyed.key (kl_key ht hr)
/-! ### the map -/
abbrev RR := Value → Option (DataW Value × List MemPlace)
def heldR : RR := fun v => some (.held v, [])
noncomputable def en (x : O) : Lit × DataW Value := (KL x.r x.q, .held (oV x))
def TM (w : World) (b : Nat) (l : List O) : Prop := ∃ es : List (Lit × DataW Value), w.ownsMap Try.prog 72 heldR b l.length (.map es) ∧ es.Perm (l.map en) ∧ (∀ x ∈ l, x.okk) ∧ RiseG l
theorem own_tight {w : World} {b n : Nat} {D : DataW Value} (h : w.ownsMap Try.prog 72 heldR b n D) : w.ownsMap Try.prog 72 heldR b (Maps.size D) D := by
  obtain ⟨es, clock, hb, F, hs, rfl⟩ := h
  exact ⟨es, clock, hb, F, by simp [Maps.size, length_sorted], rfl⟩
theorem TM.lt {w : World} {b : Nat} {l : List O} (h : TM w b l) : b < w.heap.size := by obtain ⟨es, h, _⟩ := h; exact h.lt
theorem TM.grown {w w' : World} {b : Nat} {l : List O} {row : Option Nat} (h : TM w b l) (hg : w.grownBy w' row) (hne : some b ≠ row) : TM w' b l := by
  obtain ⟨es, h1, h2⟩ := h; exact ⟨es, h1.kept hg hne, h2⟩
theorem TM.step {w w' : World} {b : Nat} {l : List O} (h : TM w b l) (hb : Below w.heap.size w w') : TM w' b l :=
  h.grown (row := none) ⟨hb.os, hb.tape, hb.output, hb.size, fun k hk _ => hb.block k hk⟩ (by simp)
theorem TM.made (w : World) : TM (w.alloc (.map #[] 0)) w.heap.size [] := ⟨[], World.ownsMap_made _ _ _ _, .refl _, (fun x hx => by cases hx), List.Pairwise.nil⟩
theorem TM.rise {w : World} {b : Nat} {l : List O} (h : TM w b l) : RiseG l := by obtain ⟨es, _, _, _, h⟩ := h; exact h
theorem TM.oks {w : World} {b : Nat} {l : List O} (h : TM w b l) : ∀ x ∈ l, x.okk := by obtain ⟨es, _, _, h, _⟩ := h; exact h
theorem same_kl {x : O} {t r : Int} (hx : x.okk) (ht : I64 t) (hr : I64 r) : (KL x.r x.q).sameKey (KL t r) = decide (x.r = t ∧ x.q = r) := by
  by_cases h : x.r = t ∧ x.q = r
  · rw [h.1, h.2, decide_eq_true ⟨rfl, rfl⟩, WideAt.sameKey_self (kl_lit ht hr)]
  · rw [decide_eq_false h]
    cases hs : (KL x.r x.q).sameKey (KL t r) with
    | false => rfl
    | true => exact absurd (kl_inj hx.1 hx.2.1 ht hr (WideAt.sameKey_eq hs)) h
theorem filter_en {l : List O} (hl : ∀ x ∈ l, x.okk) {t r : Int} (ht : I64 t) (hr : I64 r) : (l.map en).filter (fun p => !p.1.sameKey (KL t r)) = (l.filter (fun y => !isG t r y)).map en := by
  rw [List.filter_map]
  refine congrArg (List.map en) (List.filter_congr (fun x hx => ?_))
  show (!(KL x.r x.q).sameKey (KL t r)) = _
  rw [same_kl (hl x hx) ht hr]
  rfl
theorem TM.look {w : World} {b : Nat} {l : List O} (h : TM w b l) {t r : Int} (ht : I64 t) (hr : I64 r) :
    (Instr.lookup 58 (.map (some b)) (sv t r) true).run Try.prog w = .ok (.tuple #[(match getG l t r with | some x => oV x | none => oV O0), .bool (getG l t r).isSome]) w := by
  obtain ⟨es, h1, h2, h3, h4⟩ := h
  have hz : (zeroValue 35).run Try.prog w = .ok (oV O0) w := by kernel_rfl
  obtain ⟨v, ps, hrun, hv⟩ := h1.look_ok Try.keyed Try.underlying58 hz (zd := .held (oV O0)) (zp := []) rfl (kl_key ht hr)
  have hv2 : DataW.held v = DataW.atKey (.map es) (KL t r) (.held (oV O0)) := by
    unfold heldR at hv
    injection hv with hv
    injection hv
  rw [hrun]
  cases hg : getG l t r with
  | none =>
    have hn := gget_none.1 hg
    have hf : ∀ p ∈ es, ¬ p.1.sameKey (KL t r) = true := fun p hp hs => by
      obtain ⟨x, hx, rfl⟩ := List.mem_map.1 (h2.mem_iff.1 hp)
      have : (KL x.r x.q).sameKey (KL t r) = true := hs
      rw [same_kl (h3 x hx) ht hr] at this
      exact hn x hx (of_decide_eq_true this)
    have e1 : Maps.has (.map es) (KL t r) = false := by
      rw [Maps.has_eq, List.any_eq_false]
      exact hf
    have e2 : DataW.atKey (.map es) (KL t r) (.held (oV O0)) = .held (oV O0) := by
      unfold DataW.atKey
      dsimp only
      rw [List.find?_eq_none.2 hf]
    rw [e2] at hv2
    injection hv2 with hv2
    rw [e1, hv2]
    rfl
  | some x =>
    obtain ⟨hx, rfl, rfl⟩ := (gget_some h4).1 hg
    have hin : en x ∈ es := h2.mem_iff.2 (List.mem_map.2 ⟨x, hx, rfl⟩)
    have hself : (en x).1.sameKey (KL x.r x.q) = true := by
      show (KL x.r x.q).sameKey (KL x.r x.q) = true
      exact WideAt.sameKey_self (kl_lit ht hr)
    have e1 : Maps.has (.map es) (KL x.r x.q) = true := by
      rw [Maps.has_eq, List.any_eq_true]
      exact ⟨_, hin, hself⟩
    have e2 : DataW.atKey (.map es) (KL x.r x.q) (.held (oV O0)) = .held (oV x) := by
      unfold DataW.atKey
      dsimp only
      cases hf : es.find? (fun p => p.1.sameKey (KL x.r x.q)) with
      | none => exact absurd hself (List.find?_eq_none.1 hf _ hin)
      | some p =>
        have a := List.mem_of_find?_eq_some hf
        have b := List.find?_some hf
        obtain ⟨y, hy, rfl⟩ := List.mem_map.1 (h2.mem_iff.1 a)
        have b2 : (KL y.r y.q).sameKey (KL x.r x.q) = true := b
        rw [same_kl (h3 y hy) ht hr] at b2
        have := rise_one h4 hy hx (by unfold eqG; exact b2)
        subst this
        rfl
    rw [e2] at hv2
    injection hv2 with hv2
    rw [e1, hv2]
    rfl
theorem TM.len {w : World} {b : Nat} {l : List O} (h : TM w b l) (ty : TypeId) : (Builtin.len_ #[58] ty #[.map (some b)]).run Try.prog w = .ok (.int .i64 (l.length : Int)) w := by
  obtain ⟨es, h1, h2, _⟩ := h
  rw [h1.len Try.underlying58 ty, Maps.size_eq, h2.length_eq, List.length_map]
theorem TM.put {w : World} {b : Nat} {l : List O} (h : TM w b l) {x : O} (hx : x.okk) (hn : l.length < maxLen) :
    ∃ w', (Instr.mapUpdate 58 (.map (some b)) (sv x.r x.q) (oV x)).run Try.prog w = .ok () w' ∧ TM w' b (setG l x) ∧ w.grownBy w' (some b) := by
  obtain ⟨es, h1, h2, h3, h4⟩ := h
  obtain ⟨w', hrun, ho, hg⟩ := h1.update Try.keyed Try.underlying58 hn (kl_key hx.1 hx.2.1) (d := .held (oV x)) (ps := []) rfl
  have hp : (DataW.insert (KL x.r x.q, DataW.held (oV x)) (es.filter fun p => !p.1.sameKey (KL x.r x.q))).Perm ((setG l x).map en) := by
    refine (insert_perm _ _).trans ?_
    have a := h2.filter (fun p => !p.1.sameKey (KL x.r x.q))
    rw [filter_en h3 hx.1 hx.2.1] at a
    exact (a.cons (en x)).trans ((set_perm x).map en).symm
  have hl : (setG l x).length = Maps.size (.map (DataW.insert (KL x.r x.q, DataW.held (oV x)) (es.filter fun p => !p.1.sameKey (KL x.r x.q)))) := by
    rw [Maps.size_eq, hp.length_eq, List.length_map]
  refine ⟨w', hrun, ⟨_, by rw [hl]; exact own_tight ho, hp, fun y hy => ?_, rise_set h4 x⟩, hg⟩
  rcases mem_setG.1 hy with rfl | ⟨hy, _⟩
  · exact hx
  · exact h3 y hy
theorem TM.drop {w : World} {b : Nat} {l : List O} (h : TM w b l) {t r : Int} (ht : I64 t) (hr : I64 r) (ty : TypeId) :
    ∃ w', (Builtin.delete_ #[58, 72] ty #[.map (some b), sv t r]).run Try.prog w = .ok (.tuple #[]) w' ∧ TM w' b (dropG l t r) ∧ w.grownBy w' (some b) := by
  obtain ⟨es, h1, h2, h3, h4⟩ := h
  obtain ⟨w', hrun, ho, hg⟩ := h1.drop Try.keyed Try.underlying58 (kl_key ht hr) ty
  have hp : (es.filter fun p => !p.1.sameKey (KL t r)).Perm ((dropG l t r).map en) := by
    have a := h2.filter (fun p => !p.1.sameKey (KL t r))
    rw [filter_en h3 ht hr] at a
    exact a
  have hl : (dropG l t r).length = Maps.size (.map (es.filter fun p => !p.1.sameKey (KL t r))) := by
    rw [Maps.size_eq, hp.length_eq, List.length_map]
  refine ⟨w', hrun, ⟨_, by rw [hl]; exact own_tight ho, hp, fun y hy => h3 y (List.mem_filter.1 hy).1, h4.filter _⟩, ?_⟩
  obtain ⟨es0, clock, es', clock', hb, rfl⟩ := hg
  exact ⟨rfl, rfl, rfl, by simp [setBlock], fun i _ hi => heap_setBlock_other hb _ (fun e => hi (by rw [e]))⟩
theorem key_inv {key : Value} {kl : Lit} (h : keyOf Try.prog 72 key = some kl) : ∃ t r, key = sv t r := by
  obtain ⟨f, g, hl, o0, o1, t0, t1⟩ := fk_list
  obtain ⟨m, hm⟩ := sizek
  unfold keyOf at h
  rw [undk] at h
  dsimp only at h
  split at h
  · rename_i hc
    rw [Bool.and_eq_true] at hc
    have hf := hc.2
    cases key
    case agg cs =>
      unfold Value.formed at hf
      rw [undk, celk] at hf
      have hs : cs.size = 2 := by simpa using hf
      obtain ⟨a, b, rfl⟩ : ∃ a b, cs = #[a, b] := by
        obtain ⟨L⟩ := cs
        match L, hs with
        | [a, b], _ => exact ⟨a, b, rfl⟩
      rw [hm] at h
      unfold Program.keyLits at h
      rw [undk] at h
      have hcl : (Value.agg #[a, b]).cells.toList = [a, b] := rfl
      rw [hcl] at h
      simp only [celk, List.length_cons, List.length_nil, fk_all, and_self, if_true, hl, List.mapM_cons, List.mapM_nil, o0, o1, t0, t1, cel3] at h
      unfold Program.keyLits at h
      simp only [Try.underlying3] at h
      cases a <;> cases b <;> simp at h
      rename_i k1 n1 k2 n2
      by_cases c1 : k1 = .i64 ∧ (Lit.int .i64 n1).wf = true
      · by_cases c2 : k2 = .i64 ∧ (Lit.int .i64 n2).wf = true
        · exact ⟨n1, n2, by rw [c1.1, c2.1]⟩
        · rw [if_pos c1, if_neg c2] at h
          cases h
      · rw [if_neg c1] at h
        cases h
    all_goals (unfold Value.formed at hf; simp [Try.underlying24] at hf)
  · cases h
/-- A range over the table's map, `done` having come. -/
def TRg (w : World) (b r : Nat) (l done : List O) : Prop := ∃ es left cnt, w.ranges Try.prog 72 heldR b r l.length (.map es) left cnt ∧ es.Perm (l.map en) ∧ (∀ x ∈ l, x.okk) ∧ RiseG l ∧ (∀ x ∈ l, left (KL x.r x.q) = true ↔ x ∉ done) ∧ done.Nodup ∧ ∀ x ∈ done, x ∈ l
theorem TRg.tm {w : World} {b r : Nat} {l done : List O} (h : TRg w b r l done) : TM w b l := by
  obtain ⟨es, left, cnt, h1, h2, h3, h4, _⟩ := h
  exact ⟨es, h1.owns, h2, h3, h4⟩
theorem TRg.kept {w w' : World} {b r : Nat} {l done : List O} {row : Option Nat} (h : TRg w b r l done) (hg : w.grownBy w' row) (hb : some b ≠ row) (hr : some r ≠ row) : TRg w' b r l done ∧ w'.rangeLeft b r = w.rangeLeft b r := by
  obtain ⟨es, left, cnt, h1, h2⟩ := h
  have h' := h1.kept hg hb hr
  exact ⟨⟨es, left, cnt, h', h2⟩, h'.left_eq.trans h1.left_eq.symm⟩
theorem TRg.rlt {w : World} {b r : Nat} {l done : List O} (h : TRg w b r l done) : r < w.heap.size := by
  obtain ⟨es, left, cnt, h1, _⟩ := h
  exact h1.lt
theorem TRg.blt {w : World} {b r : Nat} {l done : List O} (h : TRg w b r l done) : b < w.heap.size := h.tm.lt
theorem has_en {es : List (Lit × DataW Value)} {l : List O} (h2 : es.Perm (l.map en)) (h3 : ∀ x ∈ l, x.okk) {kl : Lit} (h : Maps.has (.map es) kl = true) : ∃ x ∈ l, kl = KL x.r x.q := by
  rw [Maps.has_eq, List.any_eq_true] at h
  obtain ⟨p, hp, hs⟩ := h
  obtain ⟨x, hx, rfl⟩ := List.mem_map.1 (h2.mem_iff.1 hp)
  exact ⟨x, hx, (WideAt.sameKey_eq hs).symm⟩
theorem en_has {es : List (Lit × DataW Value)} {l : List O} (h2 : es.Perm (l.map en)) (h3 : ∀ x ∈ l, x.okk) {x : O} (hx : x ∈ l) : Maps.has (.map es) (KL x.r x.q) = true := by
  rw [Maps.has_eq, List.any_eq_true]
  exact ⟨en x, h2.mem_iff.2 (List.mem_map.2 ⟨x, hx, rfl⟩), WideAt.sameKey_self (kl_lit (h3 x hx).1 (h3 x hx).2.1)⟩
theorem en_at {es : List (Lit × DataW Value)} {l : List O} (h2 : es.Perm (l.map en)) (h3 : ∀ x ∈ l, x.okk) (h4 : RiseG l) {x : O} (hx : x ∈ l) (z : DataW Value) : DataW.atKey (.map es) (KL x.r x.q) z = .held (oV x) := by
  have hin : en x ∈ es := h2.mem_iff.2 (List.mem_map.2 ⟨x, hx, rfl⟩)
  have hself : (en x).1.sameKey (KL x.r x.q) = true := WideAt.sameKey_self (kl_lit (h3 x hx).1 (h3 x hx).2.1)
  unfold DataW.atKey
  dsimp only
  cases hf : es.find? (fun p => p.1.sameKey (KL x.r x.q)) with
  | none => exact absurd hself (List.find?_eq_none.1 hf _ hin)
  | some p =>
    have a := List.mem_of_find?_eq_some hf
    have b := List.find?_some hf
    obtain ⟨y, hy, rfl⟩ := List.mem_map.1 (h2.mem_iff.1 a)
    have b2 : (KL y.r y.q).sameKey (KL x.r x.q) = true := b
    rw [same_kl (h3 y hy) (h3 x hx).1 (h3 x hx).2.1] at b2
    have := rise_one h4 hy hx (by unfold eqG; exact b2)
    subst this
    rfl
theorem TM.range {w : World} {b : Nat} {l : List O} (h : TM w b l) : ∃ w', (Instr.range 58 (.map (some b))).run Try.prog w = .ok (.pointer (some ⟨w.heap.size, 0, none⟩)) w' ∧ TRg w' b w.heap.size l [] ∧ w.grownBy w' none ∧ w'.heap.size = w.heap.size + 1 := by
  obtain ⟨es, h1, h2, h3, h4⟩ := h
  obtain ⟨w', r1, r2, r3, r4⟩ := h1.range Try.keyed Try.underlying58
  refine ⟨w', r1, ⟨es, _, _, r2, h2, h3, h4, fun x hx => ?_, List.nodup_nil, fun x hx => by cases hx⟩, r3, r4⟩
  rw [en_has h2 h3 hx]
  simp
theorem TRg.next {w : World} {b r : Nat} {l done : List O} (h : TRg w b r l done) (ty : TypeId) :
    ((∀ x ∈ l, x ∈ done) ∧ (Instr.next (.pointer (some ⟨r, 0, none⟩)) false ty).run Try.prog w = .ok (.tuple #[.bool false]) w) ∨
    ∃ x w', x ∈ l ∧ x ∉ done ∧ (Instr.next (.pointer (some ⟨r, 0, none⟩)) false ty).run Try.prog w = .ok (.tuple #[.bool true, sv x.r x.q, oV x]) w' ∧ TRg w' b r l (done ++ [x]) ∧ w'.rangeLeft b r < w.rangeLeft b r ∧ w.grownBy w' (some r) ∧ w'.heap.size = w.heap.size ∧
      (Instr.entry (.pointer (some ⟨r, 0, none⟩))).run Try.prog w' = .ok (.tuple #[sv x.r x.q, oV x]) w' := by
  obtain ⟨es, left, cnt, h1, h2, h3, h4, h5, h6, h7⟩ := h
  rcases h1.next Try.keyed ty with ⟨hc, hl, hrun⟩ | ⟨key, v, kl, y, w', cnt', hkey, hlk, hv, hat, hrun, hrg, hlt, hgr, hsz, hen⟩
  · refine .inl ⟨fun x hx => ?_, hrun⟩
    have := h5 x hx
    rw [hl] at this
    simpa using this
  · obtain ⟨t, r', rfl⟩ := key_inv hkey
    have hhas : Maps.has (.map es) kl = true := by
      cases hh : Maps.has (.map es) kl with
      | true => rfl
      | false => exact absurd (Maps.atKey_of_not_has hh) (fun hz => by
          have e1 := hat (.lit (.bool true))
          rw [hz] at e1
          unfold heldR at hv
          injection hv with hv
          rw [← hv] at e1
          cases e1)
    obtain ⟨x, hx, rfl⟩ := has_en h2 h3 hhas
    have hk2 := kl_key (h3 x hx).1 (h3 x hx).2.1
    have := Try.keyed.inj hkey hk2
    injection this with this
    simp only [Array.mk.injEq, List.cons.injEq, Value.int.injEq, true_and, and_true] at this
    obtain ⟨rfl, rfl⟩ := this
    have hv2 : v = oV x := by
      have e1 := hat (.lit (.bool true))
      rw [en_at h2 h3 h4 hx] at e1
      unfold heldR at hv
      injection hv with hv
      rw [← hv] at e1
      injection e1 with e1
      exact e1.symm
    subst hv2
    have hnd := (h5 x hx).1 hlk
    refine .inr ⟨x, w', hx, hnd, hrun, ⟨es, _, cnt', hrg, h2, h3, h4, fun z hz => ?_, ?_, fun z hz => ?_⟩, by rw [hrg.left_eq, h1.left_eq]; exact hlt, hgr, hsz, hen⟩
    · rw [Bool.and_eq_true, h5 z hz, List.mem_append, List.mem_singleton, same_kl (h3 z hz) (h3 x hx).1 (h3 x hx).2.1]
      constructor
      · rintro ⟨a, b⟩ c
        rcases c with c | c
        · exact a c
        · subst c; simp at b
      · intro a
        refine ⟨fun c => a (.inl c), ?_⟩
        have hne : ¬ (z.r = x.r ∧ z.q = x.q) := fun e => a (.inr (rise_one h4 hz hx (by unfold eqG; exact decide_eq_true e)))
        rw [decide_eq_false hne]
        rfl
    · rw [List.nodup_append]
      exact ⟨h6, by simp, fun a ha b hb => by rw [List.mem_singleton] at hb; subst hb; rintro rfl; exact hnd ha⟩
    · rcases List.mem_append.1 hz with hz | hz
      · exact h7 z hz
      · rw [List.mem_singleton] at hz; subst hz; exact hx
theorem TRg.all {w : World} {b r : Nat} {l done : List O} (h : TRg w b r l done) (ha : ∀ x ∈ l, x ∈ done) : done.Perm l := by
  obtain ⟨es, left, cnt, h1, h2, h3, h4, h5, h6, h7⟩ := h
  exact (List.perm_ext_iff_of_nodup h6 (rise_nodup h4)).2 (fun x => ⟨h7 x, ha x⟩)
section
variable {w : World} {ops : Array Oper} {rest : List Oper} {o : Oper} {a : Act} {Q : Exit → Act → World → Prop}
theorem wpList_trange (hg : o.guard = none) (m : Operand) (hop : o.op = Op.range 58 m) (b : Nat) (l : List O) (hm : a.eval m = .map (some b)) (h : TM w b l)
    (hK : ∀ w', TRg w' b w.heap.size l [] → w.grownBy w' none → w'.heap.size = w.heap.size + 1 → wpList Try.prog ops Q rest (a.put o.dst (.pointer (some ⟨w.heap.size, 0, none⟩))) w') : wpList Try.prog ops Q (o :: rest) a w := by
  refine wpList_plain hg fun K' hK' => ?_
  obtain ⟨w', hrun, r1, r2, r3⟩ := h.range
  unfold Oper.wp
  simp [execOp, hop, hm, hrun, Result.andThen]
  exact hK' _ _ (hK w' r1 r2 r3)
theorem wpList_tnext (hg : o.guard = none) (it : Operand) (hop : o.op = Op.next it false) (b r : Nat) (l done : List O) (hit : a.eval it = .pointer (some ⟨r, 0, none⟩)) (h : TRg w b r l done)
    (hDone : (∀ x ∈ l, x ∈ done) → wpList Try.prog ops Q rest (a.put o.dst (.tuple #[.bool false])) w)
    (hMore : ∀ (x : O) (w' : World), x ∈ l → x ∉ done → TRg w' b r l (done ++ [x]) → w'.rangeLeft b r < w.rangeLeft b r → w.grownBy w' (some r) → w'.heap.size = w.heap.size → (Instr.entry (.pointer (some ⟨r, 0, none⟩))).run Try.prog w' = .ok (.tuple #[sv x.r x.q, oV x]) w' →
      wpList Try.prog ops Q rest (a.put o.dst (.tuple #[.bool true, sv x.r x.q, oV x])) w') : wpList Try.prog ops Q (o :: rest) a w := by
  refine wpList_plain hg fun K' hK' => ?_
  unfold Oper.wp
  rcases h.next o.type with ⟨hall, hrun⟩ | ⟨x, w', hx, hn, hrun, h1, h2, h3, h4, h5⟩
  · simp [execOp, hop, hit, hrun, Result.andThen]
    exact hK' _ _ (hDone hall)
  · simp [execOp, hop, hit, hrun, Result.andThen]
    exact hK' _ _ (hMore x w' hx hn h1 h2 h3 h4 h5)
end
end Go.Proofs.Ytgnnpfainoppeaa
