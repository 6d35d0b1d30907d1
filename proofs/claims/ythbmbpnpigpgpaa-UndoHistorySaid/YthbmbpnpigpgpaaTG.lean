/- A table's map, gone through. -/
import Derived.Test.YthbmbpnpigpgpaaTF
set_option linter.unusedVariables false
set_option maxRecDepth 100000
namespace Go.Proofs.Ythbmbpnpigpgpaa
open Go.RowKit Go.WideMaps Go.Maps Go.WideShapes Go.ChangeMaps

theorem key_inv {key : Value} {kl : Lit} (h : keyOf Try.prog 61 key = some kl) : ∃ t r, key = sv t r := by
  obtain ⟨f, g, hl, o0, o1, t0, t1⟩ := fk_list
  obtain ⟨m, hm⟩ := sizek
  unfold keyOf at h
  rw [undk] at h
  dsimp only at h
  split at h
  · rename_i hc
    rw [Bool.and_eq_true] at hc
    have hf := hc.2
    cases key
    case agg cs =>
      unfold Value.formed at hf
      rw [undk, celk] at hf
      have hs : cs.size = 2 := by simpa using hf
      obtain ⟨a, b, rfl⟩ : ∃ a b, cs = #[a, b] := by
        obtain ⟨L⟩ := cs
        match L, hs with
        | [a, b], _ => exact ⟨a, b, rfl⟩
      rw [hm] at h
      unfold Program.keyLits at h
      rw [undk] at h
      have hcl : (Value.agg #[a, b]).cells.toList = [a, b] := rfl
      rw [hcl] at h
      simp only [celk, List.length_cons, List.length_nil, fk_all, and_self, if_true, hl, List.mapM_cons, List.mapM_nil, o0, o1, t0, t1, cel3] at h
      unfold Program.keyLits at h
      simp only [Try.underlying3] at h
      cases a <;> cases b <;> simp at h
      rename_i k1 n1 k2 n2
      by_cases c1 : k1 = .i64 ∧ (Lit.int .i64 n1).wf = true
      · by_cases c2 : k2 = .i64 ∧ (Lit.int .i64 n2).wf = true
        · exact ⟨n1, n2, by rw [c1.1, c2.1]⟩
        · rw [if_pos c1, if_neg c2] at h
          cases h
      · rw [if_neg c1] at h
        cases h
    all_goals (unfold Value.formed at hf; simp [Try.underlying61] at hf)
  · cases h
/-- A range over the table's map, `done` having come. -/
def TRg (w : World) (b r : Nat) (l done : List Rw) : Prop := ∃ es left cnt, w.ranges Try.prog 61 heldR b r l.length (.map es) left cnt ∧ es.Perm (l.map en) ∧ (∀ x ∈ l, x.ok) ∧ Rise l ∧ (∀ x ∈ l, left (KL x.t x.r) = true ↔ x ∉ done) ∧ done.Nodup ∧ ∀ x ∈ done, x ∈ l
theorem TRg.tm {w : World} {b r : Nat} {l done : List Rw} (h : TRg w b r l done) : TM w b l := by
  obtain ⟨es, left, cnt, h1, h2, h3, h4, _⟩ := h
  exact ⟨es, h1.owns, h2, h3, h4⟩
theorem TRg.kept {w w' : World} {b r : Nat} {l done : List Rw} {row : Option Nat} (h : TRg w b r l done) (hg : w.grownBy w' row) (hb : some b ≠ row) (hr : some r ≠ row) : TRg w' b r l done ∧ w'.rangeLeft b r = w.rangeLeft b r := by
  obtain ⟨es, left, cnt, h1, h2⟩ := h
  have h' := h1.kept hg hb hr
  exact ⟨⟨es, left, cnt, h', h2⟩, h'.left_eq.trans h1.left_eq.symm⟩
theorem TRg.blt {w : World} {b r : Nat} {l done : List Rw} (h : TRg w b r l done) : b < w.heap.size := h.tm.lt
theorem has_en {es : List (Lit × DataW Value)} {l : List Rw} (h2 : es.Perm (l.map en)) (h3 : ∀ x ∈ l, x.ok) {kl : Lit} (h : Maps.has (.map es) kl = true) : ∃ x ∈ l, kl = KL x.t x.r := by
  rw [Maps.has_eq, List.any_eq_true] at h
  obtain ⟨p, hp, hs⟩ := h
  obtain ⟨x, hx, rfl⟩ := List.mem_map.1 (h2.mem_iff.1 hp)
  exact ⟨x, hx, (WideAt.sameKey_eq hs).symm⟩
theorem en_has {es : List (Lit × DataW Value)} {l : List Rw} (h2 : es.Perm (l.map en)) (h3 : ∀ x ∈ l, x.ok) {x : Rw} (hx : x ∈ l) : Maps.has (.map es) (KL x.t x.r) = true := by
  rw [Maps.has_eq, List.any_eq_true]
  exact ⟨en x, h2.mem_iff.2 (List.mem_map.2 ⟨x, hx, rfl⟩), WideAt.sameKey_self (kl_lit (h3 x hx).1 (h3 x hx).2.1)⟩
theorem en_at {es : List (Lit × DataW Value)} {l : List Rw} (h2 : es.Perm (l.map en)) (h3 : ∀ x ∈ l, x.ok) (h4 : Rise l) {x : Rw} (hx : x ∈ l) (z : DataW Value) : DataW.atKey (.map es) (KL x.t x.r) z = .held (ev x.pt x.pr x.nm x.d) := by
  have hin : en x ∈ es := h2.mem_iff.2 (List.mem_map.2 ⟨x, hx, rfl⟩)
  have hself : (en x).1.sameKey (KL x.t x.r) = true := WideAt.sameKey_self (kl_lit (h3 x hx).1 (h3 x hx).2.1)
  unfold DataW.atKey
  dsimp only
  cases hf : es.find? (fun p => p.1.sameKey (KL x.t x.r)) with
  | none => exact absurd hself (List.find?_eq_none.1 hf _ hin)
  | some p =>
    have a := List.mem_of_find?_eq_some hf
    have b := List.find?_some hf
    obtain ⟨y, hy, rfl⟩ := List.mem_map.1 (h2.mem_iff.1 a)
    have b2 : (KL y.t y.r).sameKey (KL x.t x.r) = true := b
    rw [same_kl (h3 y hy) (h3 x hx).1 (h3 x hx).2.1] at b2
    have := rise_one h4 hy hx (by unfold sameN; exact b2)
    subst this
    rfl
theorem TM.range {w : World} {b : Nat} {l : List Rw} (h : TM w b l) : ∃ w', (Instr.range 99 (.map (some b))).run Try.prog w = .ok (.pointer (some ⟨w.heap.size, 0, none⟩)) w' ∧ TRg w' b w.heap.size l [] ∧ w.grownBy w' none ∧ w'.heap.size = w.heap.size + 1 := by
  obtain ⟨es, h1, h2, h3, h4⟩ := h
  obtain ⟨w', r1, r2, r3, r4⟩ := h1.range Try.keyed Try.underlying99
  refine ⟨w', r1, ⟨es, _, _, r2, h2, h3, h4, fun x hx => ?_, List.nodup_nil, fun x hx => by cases hx⟩, r3, r4⟩
  rw [en_has h2 h3 hx]
  simp
theorem TRg.next {w : World} {b r : Nat} {l done : List Rw} (h : TRg w b r l done) (ty : TypeId) :
    ((∀ x ∈ l, x ∈ done) ∧ (Instr.next (.pointer (some ⟨r, 0, none⟩)) false ty).run Try.prog w = .ok (.tuple #[.bool false]) w) ∨
    ∃ x w', x ∈ l ∧ x ∉ done ∧ (Instr.next (.pointer (some ⟨r, 0, none⟩)) false ty).run Try.prog w = .ok (.tuple #[.bool true, sv x.t x.r, ev x.pt x.pr x.nm x.d]) w' ∧ TRg w' b r l (done ++ [x]) ∧ w'.rangeLeft b r < w.rangeLeft b r ∧ w.grownBy w' (some r) ∧ w'.heap.size = w.heap.size ∧
      (Instr.entry (.pointer (some ⟨r, 0, none⟩))).run Try.prog w' = .ok (.tuple #[sv x.t x.r, ev x.pt x.pr x.nm x.d]) w' := by
  obtain ⟨es, left, cnt, h1, h2, h3, h4, h5, h6, h7⟩ := h
  rcases h1.next Try.keyed ty with ⟨hc, hl, hrun⟩ | ⟨key, v, kl, y, w', cnt', hkey, hlk, hv, hat, hrun, hrg, hlt, hgr, hsz, hen⟩
  · refine .inl ⟨fun x hx => ?_, hrun⟩
    have := h5 x hx
    rw [hl] at this
    simpa using this
  · obtain ⟨t, r', rfl⟩ := key_inv hkey
    have hhas : Maps.has (.map es) kl = true := by
      cases hh : Maps.has (.map es) kl with
      | true => rfl
      | false => exact absurd (Maps.atKey_of_not_has hh) (fun hz => by
          have e1 := hat (.lit (.bool true))
          rw [hz] at e1
          unfold heldR at hv
          injection hv with hv
          rw [← hv] at e1
          cases e1)
    obtain ⟨x, hx, rfl⟩ := has_en h2 h3 hhas
    have hk2 := kl_key (h3 x hx).1 (h3 x hx).2.1
    have := Try.keyed.inj hkey hk2
    injection this with this
    simp only [Array.mk.injEq, List.cons.injEq, Value.int.injEq, true_and, and_true] at this
    obtain ⟨rfl, rfl⟩ := this
    have hv2 : v = ev x.pt x.pr x.nm x.d := by
      have e1 := hat (.lit (.bool true))
      rw [en_at h2 h3 h4 hx] at e1
      unfold heldR at hv
      injection hv with hv
      rw [← hv] at e1
      injection e1 with e1
      exact e1.symm
    subst hv2
    have hnd := (h5 x hx).1 hlk
    refine .inr ⟨x, w', hx, hnd, hrun, ⟨es, _, cnt', hrg, h2, h3, h4, fun z hz => ?_, ?_, fun z hz => ?_⟩, by rw [hrg.left_eq, h1.left_eq]; exact hlt, hgr, hsz, hen⟩
    · rw [Bool.and_eq_true, h5 z hz, List.mem_append, List.mem_singleton, same_kl (h3 z hz) (h3 x hx).1 (h3 x hx).2.1]
      constructor
      · rintro ⟨a, b⟩ c
        rcases c with c | c
        · exact a c
        · subst c; simp at b
      · intro a
        refine ⟨fun c => a (.inl c), ?_⟩
        have hne : ¬ (z.t = x.t ∧ z.r = x.r) := fun e => a (.inr (rise_one h4 hz hx (by unfold sameN; exact decide_eq_true e)))
        rw [decide_eq_false hne]
        rfl
    · rw [List.nodup_append]
      exact ⟨h6, by simp, fun a ha b hb => by rw [List.mem_singleton] at hb; subst hb; rintro rfl; exact hnd ha⟩
    · rcases List.mem_append.1 hz with hz | hz
      · exact h7 z hz
      · rw [List.mem_singleton] at hz; subst hz; exact hx
theorem rise_nodup {l : List Rw} (h : Rise l) : l.Nodup := h.imp (fun {a b} hab e => by subst e; unfold ltR ltS at hab; simp at hab)
theorem TRg.all {w : World} {b r : Nat} {l done : List Rw} (h : TRg w b r l done) (ha : ∀ x ∈ l, x ∈ done) : done.Perm l := by
  obtain ⟨es, left, cnt, h1, h2, h3, h4, h5, h6, h7⟩ := h
  exact (List.perm_ext_iff_of_nodup h6 (rise_nodup h4)).2 (fun x => ⟨h7 x, ha x⟩)
section
variable {w : World} {ops : Array Oper} {rest : List Oper} {o : Oper} {a : Act} {Q : Exit → Act → World → Prop}
theorem wpList_trange (hg : o.guard = none) (m : Operand) (hop : o.op = Op.range 99 m) (b : Nat) (l : List Rw) (hm : a.eval m = .map (some b)) (h : TM w b l)
    (hK : ∀ w', TRg w' b w.heap.size l [] → w.grownBy w' none → w'.heap.size = w.heap.size + 1 → wpList Try.prog ops Q rest (a.put o.dst (.pointer (some ⟨w.heap.size, 0, none⟩))) w') : wpList Try.prog ops Q (o :: rest) a w := by
  refine wpList_plain hg fun K' hK' => ?_
  obtain ⟨w', hrun, r1, r2, r3⟩ := h.range
  unfold Oper.wp
  simp [execOp, hop, hm, hrun, Result.andThen]
  exact hK' _ _ (hK w' r1 r2 r3)
theorem wpList_tnext (hg : o.guard = none) (it : Operand) (hop : o.op = Op.next it false) (b r : Nat) (l done : List Rw) (hit : a.eval it = .pointer (some ⟨r, 0, none⟩)) (h : TRg w b r l done)
    (hDone : (∀ x ∈ l, x ∈ done) → wpList Try.prog ops Q rest (a.put o.dst (.tuple #[.bool false])) w)
    (hMore : ∀ (x : Rw) (w' : World), x ∈ l → x ∉ done → TRg w' b r l (done ++ [x]) → w'.rangeLeft b r < w.rangeLeft b r → w.grownBy w' (some r) → w'.heap.size = w.heap.size → (Instr.entry (.pointer (some ⟨r, 0, none⟩))).run Try.prog w' = .ok (.tuple #[sv x.t x.r, ev x.pt x.pr x.nm x.d]) w' →
      wpList Try.prog ops Q rest (a.put o.dst (.tuple #[.bool true, sv x.t x.r, ev x.pt x.pr x.nm x.d])) w') : wpList Try.prog ops Q (o :: rest) a w := by
  refine wpList_plain hg fun K' hK' => ?_
  unfold Oper.wp
  rcases h.next o.type with ⟨hall, hrun⟩ | ⟨x, w', hx, hn, hrun, h1, h2, h3, h4, h5⟩
  · simp [execOp, hop, hit, hrun, Result.andThen]
    exact hK' _ _ (hDone hall)
  · simp [execOp, hop, hit, hrun, Result.andThen]
    exact hK' _ _ (hMore x w' hx hn h1 h2 h3 h4 h5)
end
end Go.Proofs.Ythbmbpnpigpgpaa

