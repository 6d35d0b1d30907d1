/- What Shelf, SrtL, TA, TB, TLater, TOwn, TSrtK, TRk, MS, MT, MU hold beside, of the texts at another seat. Made by tools/sup.py. -/
import Derived.Test.YtbeodechhneeeaaGreatDoorSrtL
import Derived.Test.YtbeodechhneeeaaGreatDoorMS
import Derived.Test.YtbeodechhneeeaaGreatDoorMT
import Derived.Test.YtbeodechhneeeaaGreatDoorMU
import Derived.Test.YtbeodechhneeeaaGreatDoorTA
import Derived.Test.YtbeodechhneeeaaGreatDoorTB
import Derived.Test.YtbeodechhneeeaaGreatDoorTLater
import Derived.Test.YtbeodechhneeeaaGreatDoorTOwn
import Derived.Test.YtbeodechhneeeaaGreatDoorTRk
import Derived.Test.YtbeodechhneeeaaGreatDoorTSrtK
import Derived.WalkKit
import Derived.OwnWalk
import Derived.Maps.OwnSet
import Derived.Maps.RangeWalk
import Derived.DeepKeys4
import Derived.KernelRfl
import Derived.Shelf.SlSortCmp.WholeK
import Derived.Handy
import Derived.Carry
import Derived.ProofKit
import Derived.Lib.Walk
import Derived.Lib.Hide
import Derived.RegionTactic
import Derived.LoopTactic
import Derived.WalkSpells
import Derived.Deep.RegionHeld3
import Derived.Deep.Cut
import Derived.Deep.CutRange
import Derived.Deep.CutBlock
import Derived.Deep.QuietTactic
import Derived.StillTailTactics
import Derived.Shelf.SlSortCmp.NoneTotal
import Derived.RangeFuncFrom
import Derived.Sort.MapsRangeIn
import Derived.RegionIn
import Derived.LoopNIn
import Derived.LoopIn
import Derived.TacticsInMore
import Derived.RangeFuncNested
import Derived.RangeFuncBound
import Derived.RangeFuncCalls
import Derived.RangeFuncLeaves
import Derived.Shelf.Abstract
import Derived.Shelf.RegionOpen
import Derived.MapKept
import Derived.Lib.SlicesS

/-! ### of TA -/
set_option linter.unusedVariables false
namespace Go.Proofs.YtbeodechhneeeaaGreatDoor.Tb
open Go.RowKit Go.WideMaps Go.Maps

theorem Rw.ext' {p q : Rw} (h1 : p.t = q.t) (h2 : p.r = q.r) (h3 : p.pt = q.pt) (h4 : p.pr = q.pr) (h5 : p.nm = q.nm) (h6 : p.d = q.d) : p = q := by
  cases p; cases q; simp_all
end Go.Proofs.YtbeodechhneeeaaGreatDoor.Tb




/-! ### of TSrtK -/
set_option linter.unusedVariables false
set_option maxRecDepth 100000
namespace Go.Proofs.YtbeodechhneeeaaGreatDoor.Tb
open Go.RowKit Go.Sort Go.Shelf

section
variable {α : Type} {enc : α → List Value} {k : Nat}
theorem flat_array [Inhabited α] (hk : ∀ x, (enc x).length = k) (hk0 : 0 < k) (l : List α) (t : Nat) (ht : t < l.length * k) : (flatK enc k l.toArray)[t]! = ((l.flatMap enc)[t]?).getD default := by
  have hd : t / k < l.length := Nat.div_lt_of_lt_mul (by rw [Nat.mul_comm]; exact ht)
  have hm : t % k < k := Nat.mod_lt _ hk0
  rw [get_flatK _ _ _ _ (by simpa using ht)]
  have h := flat_get hk l (t / k) (t % k) l[t / k] (List.getElem?_eq_getElem hd) hm
  rw [show t / k * k + t % k = t from by rw [Nat.mul_comm]; exact Nat.div_add_mod t k] at h
  rw [h]
  have e : l.toArray[t / k]! = l[t / k] := by simp [hd]
  rw [e]
  have hlt : t % k < (enc l[t / k]).length := by rw [hk]; exact hm
  rw [List.getElem?_eq_getElem hlt]
  simp [hlt]
theorem holdsK_block [Inhabited α] (hk : ∀ x, (enc x).length = k) (hk0 : 0 < k) {w : World} {g : Nat} {cur : Array Value} {e : TypeId} {l : List α} (hb : w.heap[g]? = some (.cells cur e (0, 0))) (ht : cur.toList.take (l.length * k) = l.flatMap enc) : HoldsK enc k w g 0 l.toArray := by
  intro j hj
  have hj' : j < l.length * k := by simpa using hj
  refine ⟨?_, by simp [World.frozen?, hb]⟩
  rw [Nat.zero_add, cell_of_row _ _ _ _ _ _ hb, flat_array hk hk0 l j hj', ← ht, List.getElem?_take_of_lt hj', Array.getElem?_toList]
  have hlt : j < (l.flatMap enc).length := by rw [flat_len hk]; exact hj'
  have hc : j < cur.size := by
    have := congrArg List.length ht
    rw [List.length_take, flat_len hk] at this
    have h2 : cur.toList.length = cur.size := Array.length_toList
    omega
  rw [Array.getElem?_eq_getElem hc]
  rfl
theorem heapK [Inhabited α] {w : World} {g n : Nat} {os : Array Obj} {cur : Array Value} {e : TypeId} {fr : Nat × Nat} (d : Array α) (hb : w.heap[g]? = some (.cells cur e fr)) :
    (sortWorldK enc k w g 0 n d os).heap[g]? = some (.cells (putCells id 0 (flatK enc k d) cur) e fr) := by
  have hg : g < w.heap.size := (Array.getElem?_eq_some_iff.1 hb).1
  unfold sortWorldK putRowK
  rw [heap_grow_old _ _ (by simpa using hg)]
  simp [putRow, mapBlock, Sort.ahead, Array.getElem?_modify, hb, onCells]
theorem grownK [Inhabited α] {w : World} {g n : Nat} {os : Array Obj} (d : Array α) : w.grownBy (sortWorldK enc k w g 0 n d os) (some g) := by
  unfold sortWorldK putRowK
  refine ⟨rfl, rfl, rfl, by simp, fun i hi hne => ?_⟩
  rw [heap_grow_old _ _ (by simpa using hi)]
  have : g ≠ i := fun e => hne (by rw [e])
  simp [putRow, mapBlock, Sort.ahead, Array.getElem?_modify, this]
theorem takeK [Inhabited α] (hk : ∀ x, (enc x).length = k) (hk0 : 0 < k) (cur : Array Value) (l : List α) (h : l.length * k ≤ cur.size) : (putCells id 0 (flatK enc k l.toArray) cur).toList.take (l.length * k) = l.flatMap enc := by
  apply List.ext_getElem?
  intro j
  by_cases hj : j < l.length * k
  · rw [List.getElem?_take_of_lt hj, Array.getElem?_toList]
    have hlt : j < (l.flatMap enc).length := by rw [flat_len hk]; exact hj
    have e := flat_array hk hk0 l j hj
    rw [List.getElem?_eq_getElem hlt] at e ⊢
    have hc : j < cur.size := by omega
    unfold putCells
    rw [Array.getElem?_mapIdx, Array.getElem?_eq_getElem hc]
    simp only [Option.map_some, Nat.zero_le, Nat.zero_add, true_and, Nat.sub_zero, id]
    rw [if_pos (by simpa using hj), e]
    rfl
  · rw [List.getElem?_take_eq_none (by omega), List.getElem?_eq_none (by rw [flat_len hk]; omega)]
end
end Go.Proofs.YtbeodechhneeeaaGreatDoor.Tb




/-! ### of MS -/
set_option linter.unusedVariables false
set_option maxRecDepth 100000
namespace Go.Proofs.YtbeodechhneeeaaGreatDoor.Tb
open Go.RowKit Go.WideMaps Go.Maps

end Go.Proofs.YtbeodechhneeeaaGreatDoor.Tb


set_option linter.unusedVariables false
set_option maxRecDepth 100000
namespace Go.Proofs.YtbeodechhneeeaaGreatDoor.Tb
open Go.RowKit Go.WideMaps Go.Maps

end Go.Proofs.YtbeodechhneeeaaGreatDoor.Tb


set_option linter.unusedVariables false
set_option maxRecDepth 100000
namespace Go.Proofs.YtbeodechhneeeaaGreatDoor.Tb
open Go.RowKit Go.WideMaps Go.Maps

end Go.Proofs.YtbeodechhneeeaaGreatDoor.Tb


set_option linter.unusedVariables false
set_option maxRecDepth 100000
namespace Go.Proofs.YtbeodechhneeeaaGreatDoor.Tb
open Go.RowKit Go.Sort Go.Shelf

def cmpS (x y : Sp) : Int := if x.1 = y.1 then Lib.compareInt x.2 y.2 else Lib.compareInt x.1 y.1
set_option maxHeartbeats 1000000 in
theorem compare_exact (x y : Sp) (W : World) : Calls Tryz.prog 32 #[.agg #[.int .i64 x.1, .int .i64 x.2], .agg #[.int .i64 y.1, .int .i64 y.2]] W fun e w' => e = .returned (.int .i64 (cmpS x y)) ∧ ∃ q os', w' = grow (W.drewN q) os' := by
  have hcon := fun a b W' => Tryz.cmp_Compare_int a b W'
  obtain ⟨x1, x2⟩ := x
  obtain ⟨y1, y2⟩ := y
  unfold cmpS
  dsimp only
  by_cases h : x1 = y1
  · rw [if_pos h]
    have t1 : (x1 != y1) = false := by simp [h]
    clear h
    go_enter Tryz.func32, Tryz.ntmps32
    go_wp2_with (go_at_call 58; refine (hcon _ _ _).mono ?_; rintro e w' ⟨rfl, rfl⟩)
    go_returns
    exact ⟨rfl, 0, _, by rw [alloc_eq_grow, alloc_eq_grow, grow_grow]; rfl⟩
  · rw [if_neg h]
    have t1 : (x1 != y1) = true := by simp [h]
    clear h
    go_enter Tryz.func32, Tryz.ntmps32
    go_wp2_with (go_at_call 58; refine (hcon _ _ _).mono ?_; rintro e w' ⟨rfl, rfl⟩)
    go_returns
    exact ⟨rfl, 0, _, by rw [alloc_eq_grow, alloc_eq_grow, grow_grow]; rfl⟩
theorem lt_cmp (x y : Sp) : ltOf cmpS x y = ltS x.1 x.2 y.1 y.2 := by
  unfold ltOf cmpS ltS Lib.compareInt
  by_cases h : x.1 = y.1
  · simp only [h, if_true]
    by_cases a : x.2 < y.2
    · simp [a]
    · by_cases b : y.2 < x.2 <;> simp [a, b]
  · simp only [h, if_false]
    by_cases a : x.1 < y.1
    · simp [a]
    · by_cases b : y.1 < x.1 <;> simp [a, b]
theorem swoS : SWO (ltOf cmpS) where
  irrefl x := by rw [lt_cmp]; unfold ltS; simp
  trans x y z h1 h2 := by
    rw [lt_cmp] at *
    unfold ltS at *
    split at h1 <;> split at h2 <;> split <;> simp at * <;> omega
  ntrans x y z h1 h2 := by
    rw [lt_cmp] at *
    unfold ltS at *
    split at h1 <;> split at h2 <;> split <;> simp at * <;> omega
theorem sort_own (w : World) (B : Nat) (v : Value) (l : List Sp) (h : w.ownsRow B 31 2 v l.length (l.flatMap encS)) (hl : l.length < 1000000) :
    Calls Tryz.prog 75 #[v, .func (.func 32) #[] #[]] w fun e w' => e = .returned (.tuple #[]) ∧ ∃ l' : List Sp, l'.Perm l ∧ l'.Pairwise (fun x y => ltS y.1 y.2 x.1 x.2 = false) ∧ w'.ownsRow B 31 2 v l.length (l'.flatMap encS) ∧ w.grownBy w' v.ownBlock := by
  rcases h.2 with ⟨rfl, h0⟩ | ⟨g, cap, cur, rfl, hB, hb, h1, h2, h3, h4⟩
  · have hn : l = [] := List.eq_nil_of_length_eq_zero h0
    subst hn
    refine (AnyF.slices_SortFunc_none Tryz.sortSt none 0 (.func (.func 32) #[] #[]) w).mono ?_
    rintro e w' ⟨rfl, rfl⟩
    exact ⟨rfl, [], .refl _, List.Pairwise.nil, h, World.grownBy.mk rfl rfl rfl (Nat.le_refl _) (fun _ _ _ => rfl)⟩
  · have eg : ∀ args w, (callFunc 32 args).run Tryz.prog w = .ok (.enter 32 args) w := enters_of Tryz.func32 (by kernel_rfl) rfl
    have hg : g < w.heap.size := lt_of_block hb
    have hH := holdsK_block (enc := encS) encS_len (by omega) hb h4
    have hcon := AnyQ.slices_SortFunc Tryz.sortSt 2 Tryz.isAgg31 Tryz.sizeOf31 encS encS_len encS_one cmpS swoS 32 #[] g 0 cap l.toArray w eg (fun _ _ _ _ x y => compare_exact x y _) hH hg (by simp; omega)
    rw [show l.toArray.size = l.length from by simp] at hcon
    refine hcon.mono ?_
    rintro e w' ⟨rfl, d', n, os, hp, hs, rfl⟩
    obtain ⟨l', rfl⟩ : ∃ l' : List Sp, d' = l'.toArray := ⟨d'.toList, by simp⟩
    have hlen : l'.length = l.length := by have := hp.1; simpa using this
    have hperm : l'.Perm l := by
      have := hp.2.2
      rw [Array.toList_extract, Array.toList_extract] at this
      simp [List.extract_eq_take_drop, ← hlen] at this
      rwa [List.take_of_length_le (by omega)] at this
    refine ⟨rfl, l', hperm, ?_, ⟨by rw [flat_len encS_len, hlen], .inr ⟨g, cap, _, rfl, hB, heapK l'.toArray hb, h1, h2, by simp [putCells, h3], by rw [← hlen]; exact takeK encS_len (by omega) cur l' (by rw [h3, hlen]; exact Nat.mul_le_mul_right 2 h1)⟩⟩, grownK _⟩
    rw [List.pairwise_iff_getElem]
    intro i j hi hj hij
    have := hs i j (Nat.zero_le _) hij (by omega)
    rw [lt_cmp] at this
    simpa [hi, hj] using this
end Go.Proofs.YtbeodechhneeeaaGreatDoor.Tb


set_option linter.unusedVariables false
set_option maxRecDepth 100000
namespace Go.Proofs.YtbeodechhneeeaaGreatDoor.Tb
open Go.RowKit Go.WideMaps Go.Maps Go.WideShapes Go.ChangeMaps

theorem key_inv {key : Value} {kl : Lit} (h : keyOf Tryz.prog 31 key = some kl) : ∃ t r, key = sv t r := by
  obtain ⟨f, g, hl, o0, o1, t0, t1⟩ := fk_list
  obtain ⟨m, hm⟩ := sizek
  unfold keyOf at h
  rw [undk] at h
  dsimp only at h
  split at h
  · rename_i hc
    rw [Bool.and_eq_true] at hc
    have hf := hc.2
    cases key
    case agg cs =>
      unfold Value.formed at hf
      rw [undk, celk] at hf
      have hs : cs.size = 2 := by simpa using hf
      obtain ⟨a, b, rfl⟩ : ∃ a b, cs = #[a, b] := by
        obtain ⟨L⟩ := cs
        match L, hs with
        | [a, b], _ => exact ⟨a, b, rfl⟩
      rw [hm] at h
      unfold Program.keyLits at h
      rw [undk] at h
      have hcl : (Value.agg #[a, b]).cells.toList = [a, b] := rfl
      rw [hcl] at h
      simp only [celk, List.length_cons, List.length_nil, fk_all, and_self, if_true, hl, List.mapM_cons, List.mapM_nil, o0, o1, t0, t1, cel3] at h
      unfold Program.keyLits at h
      simp only [Tryz.underlying3] at h
      cases a <;> cases b <;> simp at h
      rename_i k1 n1 k2 n2
      by_cases c1 : k1 = .i64 ∧ (Lit.int .i64 n1).wf = true
      · by_cases c2 : k2 = .i64 ∧ (Lit.int .i64 n2).wf = true
        · exact ⟨n1, n2, by rw [c1.1, c2.1]⟩
        · rw [if_pos c1, if_neg c2] at h
          cases h
      · rw [if_neg c1] at h
        cases h
    all_goals (unfold Value.formed at hf; simp [Tryz.underlying31] at hf)
  · cases h
theorem has_en {es : List (Lit × DataW Value)} {l : List Rw} (h2 : es.Perm (l.map en)) (h3 : ∀ x ∈ l, x.ok) {kl : Lit} (h : Maps.has (.map es) kl = true) : ∃ x ∈ l, kl = KL x.t x.r := by
  rw [Maps.has_eq, List.any_eq_true] at h
  obtain ⟨p, hp, hs⟩ := h
  obtain ⟨x, hx, rfl⟩ := List.mem_map.1 (h2.mem_iff.1 hp)
  exact ⟨x, hx, (WideAt.sameKey_eq hs).symm⟩
theorem en_at {es : List (Lit × DataW Value)} {l : List Rw} (h2 : es.Perm (l.map en)) (h3 : ∀ x ∈ l, x.ok) (h4 : Rise l) {x : Rw} (hx : x ∈ l) (z : DataW Value) : DataW.atKey (.map es) (KL x.t x.r) z = .held (ev x.pt x.pr x.nm x.d) := by
  have hin : en x ∈ es := h2.mem_iff.2 (List.mem_map.2 ⟨x, hx, rfl⟩)
  have hself : (en x).1.sameKey (KL x.t x.r) = true := WideAt.sameKey_self (kl_lit (h3 x hx).1 (h3 x hx).2.1)
  unfold DataW.atKey
  dsimp only
  cases hf : es.find? (fun p => p.1.sameKey (KL x.t x.r)) with
  | none => exact absurd hself (List.find?_eq_none.1 hf _ hin)
  | some p =>
    have a := List.mem_of_find?_eq_some hf
    have b := List.find?_some hf
    obtain ⟨y, hy, rfl⟩ := List.mem_map.1 (h2.mem_iff.1 a)
    have b2 : (KL y.t y.r).sameKey (KL x.t x.r) = true := b
    rw [same_kl (h3 y hy) (h3 x hx).1 (h3 x hx).2.1] at b2
    have := rise_one h4 hy hx (by unfold sameN; exact b2)
    subst this
    rfl
theorem TRg.next {w : World} {b r : Nat} {l done : List Rw} (h : TRg w b r l done) (ty : TypeId) :
    ((∀ x ∈ l, x ∈ done) ∧ (Instr.next (.pointer (some ⟨r, 0, none⟩)) false ty).run Tryz.prog w = .ok (.tuple #[.bool false]) w) ∨
    ∃ x w', x ∈ l ∧ x ∉ done ∧ (Instr.next (.pointer (some ⟨r, 0, none⟩)) false ty).run Tryz.prog w = .ok (.tuple #[.bool true, sv x.t x.r, ev x.pt x.pr x.nm x.d]) w' ∧ TRg w' b r l (done ++ [x]) ∧ w'.rangeLeft b r < w.rangeLeft b r ∧ w.grownBy w' (some r) ∧ w'.heap.size = w.heap.size ∧
      (Instr.entry (.pointer (some ⟨r, 0, none⟩))).run Tryz.prog w' = .ok (.tuple #[sv x.t x.r, ev x.pt x.pr x.nm x.d]) w' := by
  obtain ⟨es, left, cnt, h1, h2, h3, h4, h5, h6, h7⟩ := h
  rcases h1.next Tryz.keyed ty with ⟨hc, hl, hrun⟩ | ⟨key, v, kl, y, w', cnt', hkey, hlk, hv, hat, hrun, hrg, hlt, hgr, hsz, hen⟩
  · refine .inl ⟨fun x hx => ?_, hrun⟩
    have := h5 x hx
    rw [hl] at this
    simpa using this
  · obtain ⟨t, r', rfl⟩ := key_inv hkey
    have hhas : Maps.has (.map es) kl = true := by
      cases hh : Maps.has (.map es) kl with
      | true => rfl
      | false => exact absurd (Maps.atKey_of_not_has hh) (fun hz => by
          have e1 := hat (.lit (.bool true))
          rw [hz] at e1
          unfold heldR at hv
          injection hv with hv
          rw [← hv] at e1
          cases e1)
    obtain ⟨x, hx, rfl⟩ := has_en h2 h3 hhas
    have hk2 := kl_key (h3 x hx).1 (h3 x hx).2.1
    have := Tryz.keyed.inj hkey hk2
    injection this with this
    simp only [Array.mk.injEq, List.cons.injEq, Value.int.injEq, true_and, and_true] at this
    obtain ⟨rfl, rfl⟩ := this
    have hv2 : v = ev x.pt x.pr x.nm x.d := by
      have e1 := hat (.lit (.bool true))
      rw [en_at h2 h3 h4 hx] at e1
      unfold heldR at hv
      injection hv with hv
      rw [← hv] at e1
      injection e1 with e1
      exact e1.symm
    subst hv2
    have hnd := (h5 x hx).1 hlk
    refine .inr ⟨x, w', hx, hnd, hrun, ⟨es, _, cnt', hrg, h2, h3, h4, fun z hz => ?_, ?_, fun z hz => ?_⟩, by rw [hrg.left_eq, h1.left_eq]; exact hlt, hgr, hsz, hen⟩
    · rw [Bool.and_eq_true, h5 z hz, List.mem_append, List.mem_singleton, same_kl (h3 z hz) (h3 x hx).1 (h3 x hx).2.1]
      constructor
      · rintro ⟨a, b⟩ c
        rcases c with c | c
        · exact a c
        · subst c; simp at b
      · intro a
        refine ⟨fun c => a (.inl c), ?_⟩
        have hne : ¬ (z.t = x.t ∧ z.r = x.r) := fun e => a (.inr (rise_one h4 hz hx (by unfold sameN; exact decide_eq_true e)))
        rw [decide_eq_false hne]
        rfl
    · rw [List.nodup_append]
      exact ⟨h6, by simp, fun a ha b hb => by rw [List.mem_singleton] at hb; subst hb; rintro rfl; exact hnd ha⟩
    · rcases List.mem_append.1 hz with hz | hz
      · exact h7 z hz
      · rw [List.mem_singleton] at hz; subst hz; exact hx
section
variable {w : World} {ops : Array Oper} {rest : List Oper} {o : Oper} {a : Act} {Q : Exit → Act → World → Prop}
end
end Go.Proofs.YtbeodechhneeeaaGreatDoor.Tb


set_option linter.unusedVariables false
set_option maxRecDepth 100000
namespace Go.Proofs.YtbeodechhneeeaaGreatDoor.Tb
open Go.RowKit Go.WideMaps Go.Maps

theorem rise_sorted {l : List Rw} (h : Rise l) : (l.map stOf).Pairwise (fun x y => ltS y.1 y.2 x.1 x.2 = false) := by
  rw [List.pairwise_map]
  refine h.imp (fun {a b} hab => ?_)
  rcases lt_tri a b with ⟨q1, q2, q3⟩ | ⟨q1, q2, q3⟩ | ⟨q1, q2, q3⟩
  · exact q3
  · rw [hab] at q1; cases q1
  · rw [hab] at q1; cases q1
theorem ltS_eq {a b c d : Int} (h1 : ltS a b c d = false) (h2 : ltS c d a b = false) : a = c ∧ b = d := by
  unfold ltS at *
  split at h1 <;> split at h2 <;> simp at * <;> omega
theorem sorted_one {l1 l2 : List Sp} (hp : l1.Perm l2) (h1 : l1.Pairwise (fun x y => ltS y.1 y.2 x.1 x.2 = false)) (h2 : l2.Pairwise (fun x y => ltS y.1 y.2 x.1 x.2 = false)) : l1 = l2 := by
  refine List.Perm.eq_of_pairwise (le := fun x y => ltS y.1 y.2 x.1 x.2 = false) (fun a b _ _ q1 q2 => ?_) h1 h2 hp
  obtain ⟨e1, e2⟩ := ltS_eq q1 q2
  exact Prod.ext e1.symm e2.symm
end Go.Proofs.YtbeodechhneeeaaGreatDoor.Tb




/-! ### of MT -/
set_option linter.unusedVariables false
set_option maxRecDepth 100000
namespace Go.Proofs.YtbeodechhneeeaaGreatDoor.Tb
open Go.RowKit Go.WideMaps Go.Maps

theorem row_iter {w : World} {b r : Nat} {l done : List Rw} {base : Nat} {e : TypeId} {size : Nat} {v : Value} {m : Nat} {xs : List Value} (h : w.ownsRow base e size v m xs) (hr : TRg w b r l done) : some r ≠ v.ownBlock := by
  obtain ⟨es, left, cnt, h1, _⟩ := hr
  obtain ⟨_, _, _, _, _, _, _, _, _, hit, _⟩ := h1
  rcases h.2 with ⟨rfl, _⟩ | ⟨g, cap, cur, rfl, _, hb, _⟩
  · simp [Value.ownBlock]
  · intro e1
    have : r = g := by simpa [Value.ownBlock] using e1
    subst this
    rw [hit] at hb
    cases hb
/-- The iterator's step. -/
theorem KI.next {w W W' : World} {b r : Nat} {l : List Rw} {pt pr : Int} {v : Value} {done : List Rw} (h : KI w W b r l pt pr v done) (hg : W.grownBy W' (some r)) : W'.ownsRow (w.heap.size + 1) 31 2 v (kd done pt pr).length ((kd done pt pr).flatMap encS) ∧ StAt W' w.heap.size pt pr ∧ Below w.heap.size w W' := by
  refine ⟨h.own.kept hg ?_, (hg.block _ (lt_of_block h.box) (fun e => by injection e with e; have := h.big; omega)).trans h.box, h.bel.grown hg h.bel.size (fun k e => by cases e; have := h.big; omega)⟩
  have := row_iter h.own h.rg
  cases hv : v.ownBlock with
  | none => exact .inl rfl
  | some g => exact .inr (fun e => this (by rw [hv, e]))
end Go.Proofs.YtbeodechhneeeaaGreatDoor.Tb


set_option linter.unusedVariables false
set_option maxRecDepth 100000
namespace Go.Proofs.YtbeodechhneeeaaGreatDoor.Tb
open Go.RowKit Go.WideMaps Go.Maps

section
variable {F : Fence} {n : Nat} {w : World} {ops : Array Oper} {rest : List Oper} {o : Oper} {a : Act} {Q : Exit → Act → World → Prop}
theorem wpListIn_trange (hg : o.guard = none) (m : Operand) (hop : o.op = Op.range 84 m) (b : Nat) (l : List Rw) (hm : a.eval m = .map (some b)) (h : TM w b l)
    (hK : ∀ w', TRg w' b w.heap.size l [] → w.grownBy w' none → w'.heap.size = w.heap.size + 1 → wpListIn F n Tryz.prog ops Q rest (a.put o.dst (.pointer (some ⟨w.heap.size, 0, none⟩))) w') : wpListIn F n Tryz.prog ops Q (o :: rest) a w := by
  refine wpListIn_plain hg fun K' hK' => ?_
  obtain ⟨w', hrun, r1, r2, r3⟩ := h.range
  unfold Oper.wpIn
  refine ⟨by simp [Oper.about, hop], ?_⟩
  rw [Oper.semAt_plain F _ _ (by rw [hop]; intro c hc'; cases hc')]
  simp [execOp, hop, hm, hrun, Result.andThen]
  exact hK' _ _ (hK w' r1 r2 r3)
theorem wpListIn_tnext (hg : o.guard = none) (it : Operand) (hop : o.op = Op.next it false) (b r : Nat) (l done : List Rw) (hit : a.eval it = .pointer (some ⟨r, 0, none⟩)) (h : TRg w b r l done)
    (hDone : (∀ x ∈ l, x ∈ done) → wpListIn F n Tryz.prog ops Q rest (a.put o.dst (.tuple #[.bool false])) w)
    (hMore : ∀ (x : Rw) (w' : World), x ∈ l → x ∉ done → TRg w' b r l (done ++ [x]) → w'.rangeLeft b r < w.rangeLeft b r → w.grownBy w' (some r) → w'.heap.size = w.heap.size → (Instr.entry (.pointer (some ⟨r, 0, none⟩))).run Tryz.prog w' = .ok (.tuple #[sv x.t x.r, ev x.pt x.pr x.nm x.d]) w' →
      wpListIn F n Tryz.prog ops Q rest (a.put o.dst (.tuple #[.bool true, sv x.t x.r, ev x.pt x.pr x.nm x.d])) w') : wpListIn F n Tryz.prog ops Q (o :: rest) a w := by
  refine wpListIn_plain hg fun K' hK' => ?_
  unfold Oper.wpIn
  refine ⟨by simp [Oper.about, hop], ?_⟩
  rw [Oper.semAt_plain F _ _ (by rw [hop]; intro c hc'; cases hc')]
  rcases h.next o.type with ⟨hall, hrun⟩ | ⟨x, w', hx, hn, hrun, h1, h2, h3, h4, h5⟩
  · simp [execOp, hop, hit, hrun, Result.andThen]
    exact hK' _ _ (hDone hall)
  · simp [execOp, hop, hit, hrun, Result.andThen]
    exact hK' _ _ (hMore x w' hx hn h1 h2 h3 h4 h5)
end
theorem TRg.walks {w w' : World} {b r : Nat} {l done : List Rw} (h : TRg w b r l done) (hk : KeepsWalks w w') : TRg w' b r l done ∧ w'.rangeLeft b r = w.rangeLeft b r := by
  obtain ⟨es, left, cnt, h1, h2⟩ := h
  have h' := h1.of_walks hk
  exact ⟨⟨es, left, cnt, h', h2⟩, h'.left_eq.trans h1.left_eq.symm⟩
theorem TRg.less {w : World} {b r : Nat} {l done : List Rw} (h : TRg w b r l done) {x : Rw} (hx : x ∈ l) (hn : x ∉ done) : done.length < l.length := by
  obtain ⟨es, left, cnt, _, _, _, h4, _, h6, h7⟩ := h
  have : (done ++ [x]).length ≤ l.length := List.Nodup.length_le_of_subset (by
    rw [List.nodup_append]
    exact ⟨h6, by simp, fun a ha b hb => by rw [List.mem_singleton] at hb; subst hb; rintro rfl; exact hn ha⟩) (fun z hz => by
    rcases List.mem_append.1 hz with hz | hz
    · exact h7 z hz
    · rw [List.mem_singleton] at hz; subst hz; exact hx)
  rw [List.length_append] at this
  simp at this
  omega
theorem TRg.iter {w : World} {b r : Nat} {l done : List Rw} (h : TRg w b r l done) : ∃ o : Obj, w.heap[r]? = some o ∧ o.isWalk = true := by
  obtain ⟨es, left, cnt, h1, _⟩ := h
  exact h1.iter_walk
abbrev encR (x : Rw) : Array Value := #[sv x.t x.r]
set_option maxHeartbeats 2000000 in
theorem keys1_in (n : Nat) (hn : 1 ≤ n) (l' Bm b : Nat) (l : List Rw) (J Jx : List Rw → World → Prop)
    (hY : ∀ pre x W, J pre W → pre.length < l.length → YieldAt Fence.wide (n - 1) Tryz.prog l' (encR x) W fun e W' =>
      (e = .returned (.bool true) ∧ J (pre ++ [x]) W' ∧ KeepsWalks W W') ∨ (e = .returned (.bool false) ∧ Jx (pre ++ [x]) W'))
    (W : World) (hJ : AbidesFrom W.heap.size J) (hm : W.cell? ⟨Bm, 0, none⟩ = some (.map (some b))) (h : TM W b l) (h0 : J [] W) :
    CallsIn Fence.wide n Tryz.prog 76 #[.func (.yield l') #[] #[], .pointer (some ⟨Bm, 0, none⟩)] W fun e W' => (∃ v, e = .returned v) ∧ ((∃ ss : List Rw, ss.Perm l ∧ J ss W') ∨ (∃ pre : List Rw, True ∧ Jx pre W')) := by
  have hro : Fence.wide.round = none := rfl
  refine callsIn_of_wp Tryz.func76 rfl trivial ?_ hro
  simp only [Tryz.ntmps76, List.size_toArray, List.length_cons, List.length_nil, Nat.reduceAdd, Nat.reduceSub, Array.replicate_succ, Array.replicate_zero, List.push_toArray, List.append_toArray, List.nil_append, List.cons_append]
  gi_wp2_with (first
    | (gi_at_range; refine wpListIn_trange rfl _ rfl b l rfl h ?_; intro w0 hrg0 hg0 hs0)
    | gi_in)
  go_frame
  gi_loopw [3] (fun _ wr => ∃ ss, Hid (TRg wr b W.heap.size l ss ∧ J ss wr)) (fun _ wr => wr.rangeLeft b W.heap.size)
  case atStart =>
    exact ⟨[], Lib.hid ⟨hrg0, hJ [] W w0 none h0 hg0 (fun r e => by cases e)⟩⟩
  case round =>
    obtain ⟨ss, hJs⟩ := hrel
    gi_wp2_with (first
      | (gi_at_next; refine wpListIn_tnext rfl _ rfl b W.heap.size l ss rfl hJs.out.1 ?_ ?_)
      | gi_in)
    · intro hall
      have FIN := Lib.hid (hJs.out.1.all hall)
      clear hall
      gi_wp2
      go_end0
      exact ⟨⟨_, rfl⟩, .inl ⟨ss, FIN.out, hJs.out.2⟩⟩
    · intro x w2 hx hn hrg2 hlt hg2 hs2 hen
      have hJ2 : J ss w2 := hJ ss wr w2 (some W.heap.size) hJs.out.2 hg2 (fun r e => by cases e; exact ⟨Nat.le_refl _, hJs.out.1.iter⟩)
      have hB3 := vstep w2 (.cells #[.int .i64 x.t, .int .i64 x.r] 31)
      have hJ3 : J ss (w2.alloc (.cells #[.int .i64 x.t, .int .i64 x.r] 31)) := hJ ss w2 _ none hJ2 (World.grownBy_alloc w2 _ none) (fun r e => by cases e)
      have hrg3 := hrg2.kept (World.grownBy_alloc w2 (.cells #[.int .i64 x.t, .int .i64 x.r] 31) none) (by simp) (by simp)
      obtain ⟨fn, tmps, assign, body, hy, hR⟩ := hY ss x _ hJ3 (hJs.out.1.less hx hn)
      clear hs2
      gi_wp2
      refine hR.mono ?_
      rintro e W3 (⟨rfl, hJ4, hk3⟩ | ⟨rfl, hJx3⟩)
      · have hrg4 := hrg3.1.walks hk3
        have FIN := Lib.hid (show TRg W3 b W.heap.size l (ss ++ [x]) ∧ J (ss ++ [x]) W3 from ⟨hrg4.1, hJ4⟩)
        have ML := Lib.hid (show W3.rangeLeft b W.heap.size < wr.rangeLeft b W.heap.size from by rw [hrg4.2, hrg3.2]; exact hlt)
        clear hrg4 hrg3 hlt hrg2
        gi_wp2
        go_roundw
        case rel => exact ⟨ss ++ [x], FIN⟩
        case measure => exact ML.out
      · gi_wp2
        refine bodyPost_ret (results_none rfl _ _ _) rfl ?_
        exact ⟨⟨_, rfl⟩, .inr ⟨ss ++ [x], trivial, hJx3⟩⟩
theorem keys_stops (n : Nat) (hn : 1 ≤ n) (Bm b : Nat) (l : List Rw) (w : World) (hBm : Bm < w.heap.size) (hm : w.cell? ⟨Bm, 0, none⟩ = some (.map (some b))) (h : TM w b l) :
    SeqStopsK Fence.wide n Tryz.prog 76 #[.pointer (some ⟨Bm, 0, none⟩)] encR KeepsWalks (fun ss => ss.Perm l) (fun _ => True) l.length w := fun l' J Jx W hW hJ _ hY h0 =>
  keys1_in n hn l' Bm b l J Jx hY W hJ ((hW.cell (p := ⟨Bm, 0, none⟩) hBm).trans hm) (h.step hW) h0
end Go.Proofs.YtbeodechhneeeaaGreatDoor.Tb


set_option linter.unusedVariables false
set_option maxRecDepth 100000
namespace Go.Proofs.YtbeodechhneeeaaGreatDoor.Tb
open Go.RowKit Go.WideMaps Go.Maps

theorem wpListIn_push {F : Fence} {n : Nat} {w : World} {ops : Array Oper} {rest : List Oper} {o : Oper} {a : Act} {Q : Exit → Act → World → Prop} (hgd : o.guard = none) (s x : Operand)
    (ho : o.op = .call { callee := .builtin .append, args := #[s, x], argTypes := #[34, 34] }) (base : Nat) (i : TypeInfo) (hi : Tryz.prog.info? 31 = some i) (hz : i.zero = some (.agg #[.int .i64 0, .int .i64 0])) (hsize : i.size = 2) (hby : i.bytes = 16)
    (v : Value) (l : List Sp) (p : Sp) (g : Nat) (hs : a.eval s = v) (hx : a.eval x = .slice (some ⟨g, 0, none⟩) 1 1) (hb : w.heap[g]? = some (.cells (encS p).toArray 31 (0, 0))) (hown : w.ownsRow base 31 2 v l.length (l.flatMap encS))
    (hl : l.length < 100000) (hbase : base ≤ w.heap.size)
    (h : ∀ v' w', w'.ownsRow base 31 2 v' (l ++ [p]).length ((l ++ [p]).flatMap encS) → w.grownBy w' v.ownBlock → wpListIn F n Tryz.prog ops Q rest (a.put o.dst v') w') : wpListIn F n Tryz.prog ops Q (o :: rest) a w := by
  have hsrc := (one_liesK encS_len hb).src Tryz.u43 encS_len (by omega) encS_one
  refine wpListIn_plain hgd fun K hK => ?_
  obtain ⟨v', w', hr, h2, h3, h4⟩ := run_append_src_own (P := Tryz.prog) w base 34 34 o.type 31 i (.agg #[.int .i64 0, .int .i64 0]) 2 16 Tryz.u43 hi hz hsize hby rfl (by omega) v l.length _ hown _ 1 ([p].flatMap encS) hsrc (by unfold maxLen; omega) (by omega) hbase
  unfold Oper.wpIn
  refine ⟨by simp [Oper.about, ho, resolve, Target.leads, Sem.run_pure], ?_⟩
  rw [Oper.semAt_plain F _ _ (by rw [ho]; intro c hc'; cases hc')]
  simp only [execOp, ho, resolve, invoke, builtin, Sem.run_bind, Sem.run_pure, Result.andThen_ok, List.map_toArray, List.map_cons, List.map_nil, hs, hx, hr]
  exact hK _ _ (h v' w' (by rw [List.length_append, List.flatMap_append]; exact h2) h3)
/-- The round's frame. -/
def AX (w : World) (Bm : Nat) (x : Rw) (a : Act) (W : World) : Prop := ∃ k, a = { tmps := #[.slice none 0 0, .func (.func 76) #[] #[.pointer (some ⟨Bm, 0, none⟩)], .pointer (some ⟨w.heap.size, 0, none⟩), undef, .slice none 0 0, .pointer (some ⟨k, 0, none⟩), .func (.func 76) #[] #[.pointer (some ⟨Bm, 0, none⟩)], sv x.t x.r, undef, undef, undef, undef, undef], defers := [] } ∧ StAt W k x.t x.r
theorem AX.own (w : World) (Bm B : Nat) (x : Rw) (a : Act) : OwnFrom B (fun (_ : Unit) W => AX w Bm x a W) := by
  intro s W W' row h hg hr
  obtain ⟨k, e, h1⟩ := h
  refine ⟨k, e, (hg.block _ (lt_of_block h1) (fun e => ?_)).trans h1⟩
  obtain ⟨o, ho, hc⟩ := (hr _ e.symm).2
  rw [show W.heap[k]? = _ from h1] at ho
  cases ho
  cases hc
set_option maxHeartbeats 4000000 in
theorem appendSeq_in (n : Nat) (hn : 4 ≤ n) (w : World) (Bm b : Nat) (l : List Rw) (hl : l.length < 100000) (hBm : Bm < w.heap.size) (hm : w.cell? ⟨Bm, 0, none⟩ = some (.map (some b))) (h : TM w b l) :
    CallsIn Fence.wide n Tryz.prog 98 #[.slice none 0 0, .func (.func 76) #[] #[.pointer (some ⟨Bm, 0, none⟩)]] w fun e w' => ∃ (v : Value) (ss : List Rw), e = .returned v ∧ ss.Perm l ∧ w'.ownsRow (w.heap.size + 1) 31 2 v (ss.map stOf).length ((ss.map stOf).flatMap encS) ∧ Below w.heap.size w w' := by
  have h1 : 1 ≤ n := by omega
  have hro : Fence.wide.round = none := rfl
  obtain ⟨W0, hW0⟩ : ∃ W0, w.alloc (.cells #[.slice none 0 0] 34) = W0 := ⟨_, rfl⟩
  have hs0 : W0.heap.size = w.heap.size + 1 := by rw [← hW0]; simp
  have hv0 : W0.heap[w.heap.size]? = some (.cells #[.slice none 0 0] 34 (0, 0)) := by rw [← hW0]; exact World.alloc_heap_new w _
  have hb0 : Below w.heap.size w W0 := by rw [← hW0]; exact vstep w _
  have HW := Lib.hid hW0
  have HZ := Lib.hid hs0
  have HV := Lib.hid hv0
  have HB := Lib.hid hb0
  have SQ := Lib.hid (keys_stops (n - 1) (by omega) Bm b l w hBm hm h)
  obtain ⟨i0, hi, hz0, hz1, hz2⟩ := info_parts info24
  clear hW0 hs0 hv0 hb0 h hm
  refine callsIn_of_wp_marks Tryz.func98 rfl trivial ?_ hro
  simp only [Tryz.ntmps98, List.size_toArray, List.length_cons, List.length_nil, Nat.reduceAdd, Nat.reduceSub, Array.replicate_succ, Array.replicate_zero, List.push_toArray, List.append_toArray, List.nil_append, List.cons_append]
  gi_wp2
  rw [HW.out]
  refine wpIn_rangeFunc_ownH hro h1 (gf := 76) (lb := #[.pointer (some ⟨Bm, 0, none⟩)]) rfl trivial (enters_of Tryz.func76 (by kernel_rfl) rfl)
    SQ.out (fun h k => KeepsWalks.trans h k) (fun W l o o' _ h _ hw => KeepsWalks.putObj _ h hw) HB.out (fun _ => rfl)
    (AI w) (fun _ _ _ => False) (AI.own w _ HB.out.size) (fun _ _ _ _ _ hs _ _ => hs) ⟨⟨_, HV.out, World.ownsRow_nil _ _ _ _⟩, HB.out⟩
    (AX w Bm) (fun x a' => AX.own w Bm _ x a') ?assign ?body ?done ?stop
  case assign =>
    intro l' pre x W K hI hK
    gi_wp2_with (rw [Oper.semAt_eq _ _ _ (fun c h => by cases h)]; go_simp; try go_bits)
    exact hK _ _ ((KeepsOthers.alloc W _).from _) (KeepsWalks.alloc W _) ((AI.own w _ HB.out.size).alloc _ hI) ⟨W.heap.size, rfl, StAt.new W x.t x.r⟩
  case body =>
    rintro l' pre x a' W hl' hr' ⟨⟨v, hv, ho⟩, hbW⟩ ⟨k, rfl, hst⟩ hN
    obtain ⟨c1, c2⟩ := hst.cells
    have c3 := cell_of_one hv
    obtain ⟨va, vc, rfl⟩ := own_shapeK ho
    have OW := Lib.hid ho
    have HV3 := Lib.hid hv
    have BW := Lib.hid hbW
    have HN := Lib.hid (show (pre.map stOf).length < 100000 from by rw [List.length_map]; omega)
    have PM := Lib.hid (show (pre ++ [x]).map stOf = pre.map stOf ++ [stOf x] from by rw [List.map_append]; rfl)
    generalize pre.map stOf = ks at *
    have H5 := Lib.hid (show (W.alloc (.cells #[.int .i64 x.t, .int .i64 x.r] 31)).heap[W.heap.size]? = some (.cells (encS (stOf x)).toArray 31 (0, 0)) from heap_alloc_new W _)
    have O5 := Lib.hid (own_belowK OW.out (vstep W (.cells #[.int .i64 x.t, .int .i64 x.r] 31)))
    clear ho hv hbW hst hN
    gi_wp2_with (first
      | (gi_at_builtin; refine wpListIn_push rfl (.tmp 8) (.tmp 10) rfl (w.heap.size + 1) i0 hi hz0 hz1 hz2 (.slice va ks.length vc) ks (stOf x) W.heap.size rfl rfl H5.out O5.out HN.out (by have := lt_of_block HV3.out; simp; omega) ?_; intro v6 w6 hown hgr; obtain ⟨va6, vc6, rfl⟩ := own_shapeK hown; have hv6 := (hgr.block w.heap.size (by have := lt_of_block HV3.out; simp; omega) (fun e => by have := (O5.out.lt _ e.symm).1; omega)).trans ((vstep W (.cells #[.int .i64 x.t, .int .i64 x.r] 31)).block w.heap.size (lt_of_block HV3.out) |>.trans HV3.out); have c6 := cell_of_one hv6; have f6 := free_of_one hv6; have V6 := Lib.hid hv6; have O6 := Lib.hid hown; have G6 := Lib.hid hgr; clear hown hgr hv6 c1 c2 c3)
      | (rw [Oper.semAt_eq _ _ _ (fun c h => by cases h)]; go_simp; try go_bits))
    have B5 := vstep W (.cells #[.int .i64 x.t, .int .i64 x.r] 31)
    have KO : ∀ u, KeepsOthers W (w6.setCell ⟨w.heap.size, 0, none⟩ u) := fun u => ((KeepsOthers.alloc W _).trans (KeepsOthers.of_grownBy G6.out (fun j o e ho => by
      rcases O5.out.2 with ⟨e1, _⟩ | ⟨g, cap, cur, e1, _, hb, _⟩
      · rw [e1] at e; cases e
      · rw [e1] at e
        injection e with e
        subst e
        rw [hb] at ho
        cases ho
        rfl))).trans (KeepsOthers.setCell _ _ _)
    have O7 : w6.ownsRow (w.heap.size + 1) 31 2 (.slice va6 (ks.length + 1) vc6) (ks ++ [stOf x]).length ((ks ++ [stOf x]).flatMap encS) := by have := O6.out; rw [show (ks ++ [stOf x]).length = ks.length + 1 by simp] at this ⊢; exact this
    refine ⟨(KO _).from _, (KO _).walks, ⟨_, Boxed.set _ V6.out, ?_⟩, ?_⟩
    · rw [PM.out]
      exact O7.kept (grownBy_setCell' w6 w.heap.size _) (.inr (fun e => by have := (O7.lt _ e).1; omega))
    · exact ((BW.out.trans (B5.mono BW.out.size)).grown G6.out (by have := BW.out.size; simp; omega) (fun j e => by have := (O5.out.lt _ e).1; omega)).setCell (Nat.le_refl _) _
  case done =>
    rintro D ys W hD hS ⟨⟨v, hv, ho⟩, hbW⟩ hK
    have c3 := cell_of_one hv
    have HK := Lib.hid hK
    have PS := Lib.hid hS
    have HD := Lib.hid hD
    obtain ⟨va, vc, rfl⟩ := own_shapeK ho
    have FIN := Lib.hid (show W.ownsRow (w.heap.size + 1) 31 2 (.slice va ys.length vc) (ys.map stOf).length ((ys.map stOf).flatMap encS) ∧ Below w.heap.size w W from ⟨by have := ho; rw [List.length_map] at this ⊢; exact this, hbW⟩)
    rw [List.length_map] at c3
    clear ho hbW hv hS hK hD
    gi_wp2
    refine ⟨by simp, .inl ⟨_, _, rfl, run_takeDeferred HK.out, ?_⟩⟩
    refine ⟨_, results_tmp rfl _ _ _, _, ys, rfl, PS.out, ?_, ?_⟩
    · exact own_kept FIN.out.1 (grownBy_putObj' W D _) (fun r e => by cases e; exact ⟨_, HK.out, rfl⟩)
    · exact FIN.out.2.grown (grownBy_putObj' W D _) FIN.out.2.size (fun r e => by cases e; have := HD.out; have := HZ.out; omega)
  case stop =>
    rintro D c pre W _ _ h _
    exact h.elim
set_option maxHeartbeats 1000000 in
theorem collect_any (w : World) (Bm b : Nat) (l : List Rw) (hl : l.length < 100000) (hBm : Bm < w.heap.size) (hm : w.cell? ⟨Bm, 0, none⟩ = some (.map (some b))) (h : TM w b l) :
    Calls Tryz.prog 74 #[.func (.func 76) #[] #[.pointer (some ⟨Bm, 0, none⟩)]] w fun e w' => ∃ (v : Value) (ss : List Rw), e = .returned v ∧ ss.Perm l ∧ w'.ownsRow (w.heap.size + 1) 31 2 v (ss.map stOf).length ((ss.map stOf).flatMap encS) ∧ Below w.heap.size w w' := by
  have C := Lib.hid (callsIn_wide.1 (appendSeq_in 4 (Nat.le_refl _) w Bm b l hl hBm hm h))
  clear hm h
  go_enter Tryz.func74, Tryz.ntmps74
  go_wp2_with fail
  refine C.out.mono ?_
  rintro e w1 ⟨v, ss, rfl, h1, h2, h3⟩
  have FIN := Lib.hid (And.intro h1 (And.intro h2 h3))
  clear h1 h2 h3
  go_wp2
  go_returns
  exact ⟨v, ss, rfl, FIN.out⟩
def nodesF (l : List Rw) : List Sp := l.map stOf
set_option maxHeartbeats 1000000 in
theorem sorted_any (w : World) (Bm b : Nat) (l : List Rw) (hl : l.length < 100000) (hBm : Bm < w.heap.size) (hm : w.cell? ⟨Bm, 0, none⟩ = some (.map (some b))) (h : TM w b l) :
    Calls Tryz.prog 45 #[.func (.func 76) #[] #[.pointer (some ⟨Bm, 0, none⟩)], .func (.func 32) #[] #[]] w fun e w' => ∃ v, e = .returned v ∧ w'.ownsRow w.heap.size 31 2 v (nodesF l).length ((nodesF l).flatMap encS) ∧ Below w.heap.size w w' := by
  have C := Lib.hid (collect_any w Bm b l hl hBm hm h)
  have RS := Lib.hid h.rise
  clear hm h
  go_enter Tryz.func45, Tryz.ntmps45
  go_wp2_with fail
  refine C.out.mono ?_
  rintro e w1 ⟨v, ss, rfl, h1, h2, h3⟩
  have PS := Lib.hid h1
  have OW := Lib.hid h2
  have BW := Lib.hid h3
  obtain ⟨va, vc, rfl⟩ := own_shapeK h2
  have SO := Lib.hid (sort_own w1 _ _ (ss.map stOf) h2 (by rw [List.length_map, h1.length_eq]; omega))
  clear h1 h2 h3 C
  generalize hks : ss.map stOf = ks at *
  have HK := Lib.hid hks
  clear hks
  go_wp2_with fail
  refine SO.out.mono ?_
  rintro e w4 ⟨rfl, l', hp, hs, ho, hg⟩
  have EQ := Lib.hid (show l' = nodesF l from sorted_one (hp.trans (by rw [← HK.out]; exact PS.out.map _)) hs (rise_sorted RS.out))
  have FIN := Lib.hid (show w4.ownsRow w.heap.size 31 2 (.slice va ks.length vc) (nodesF l).length ((nodesF l).flatMap encS) ∧ Below w.heap.size w w4 from by
    have e1 : ks.length = (nodesF l).length := by rw [← EQ.out]; exact hp.length_eq.symm
    rw [EQ.out, e1] at ho
    refine ⟨?_, BW.out.grown hg BW.out.size (fun k e => by have := (OW.out.lt k e).1; omega)⟩
    rw [e1]
    exact ⟨ho.1, ho.2.imp id fun ⟨g, cap, cur, h1, h2, h3⟩ => ⟨g, cap, cur, h1, by omega, h3⟩⟩)
  clear hp hs ho hg EQ SO
  go_wp2
  go_returns
  exact ⟨_, rfl, FIN.out.1, FIN.out.2⟩
set_option maxHeartbeats 1000000 in
theorem keys_any (w : World) (m : Option Nat) : Calls Tryz.prog 46 #[.map m] w fun e w' => e = .returned (.func (.func 76) #[] #[.pointer (some ⟨w.heap.size, 0, none⟩)]) ∧ w' = w.alloc (.cells #[.map m] 84) := by
  go_enter Tryz.func46, Tryz.ntmps46
  go_wp2
  go_returns
  exact ⟨rfl, rfl⟩
set_option maxHeartbeats 1000000 in
theorem nodes_any (w : World) (p b : Nat) (l : List Rw) (h : TabI w p b l) (hl : l.length < 100000) :
    Calls Tryz.prog 20 #[.pointer (some ⟨p, 0, none⟩)] w fun e w' => ∃ v, e = .returned v ∧ w'.ownsRow w.heap.size 31 2 v (nodesF l).length ((nodesF l).flatMap encS) ∧ Below w.heap.size w w' := by
  have M := Lib.hid (made_any w p b l h)
  have K := Lib.hid (keys_any w (some b))
  have B1 := Lib.hid (vstep w (.cells #[.map (some b)] 84))
  have S := Lib.hid (sorted_any (w.alloc (.cells #[.map (some b)] 84)) w.heap.size b l hl (by simp) (cell_of_one (heap_alloc_new w _)) (h.map.step B1.out))
  have c0 := h.cell
  clear h
  go_enter Tryz.func20, Tryz.ntmps20
  go_wp2_with fail
  refine M.out.mono ?_
  rintro e w1 ⟨rfl, rfl⟩
  go_wp2_with fail
  refine K.out.mono ?_
  rintro e w1 ⟨rfl, rfl⟩
  go_wp2_with fail
  refine S.out.mono ?_
  rintro e w2 ⟨v, rfl, h1, h2⟩
  have FIN := Lib.hid (show w2.ownsRow w.heap.size 31 2 v (nodesF l).length ((nodesF l).flatMap encS) ∧ Below w.heap.size w w2 from ⟨⟨h1.1, h1.2.imp id fun ⟨g, cap, cur, a1, a2, a3⟩ => ⟨g, cap, cur, a1, by have := B1.out.size; omega, a3⟩⟩, B1.out.trans (h2.mono B1.out.size)⟩)
  clear h1 h2 c0
  go_wp2
  go_returns
  exact ⟨_, rfl, FIN.out.1, FIN.out.2⟩
end Go.Proofs.YtbeodechhneeeaaGreatDoor.Tb


set_option linter.unusedVariables false
set_option maxRecDepth 100000
namespace Go.Proofs.YtbeodechhneeeaaGreatDoor.Tb
open Go.RowKit Go.WideMaps Go.Maps

end Go.Proofs.YtbeodechhneeeaaGreatDoor.Tb


set_option linter.unusedVariables false
set_option maxRecDepth 100000
namespace Go.Proofs.YtbeodechhneeeaaGreatDoor.Tb
open Go.RowKit Go.WideMaps Go.Maps

end Go.Proofs.YtbeodechhneeeaaGreatDoor.Tb


set_option linter.unusedVariables false
set_option maxRecDepth 100000
namespace Go.Proofs.YtbeodechhneeeaaGreatDoor.Tb
open Go.RowKit Go.WideMaps Go.Maps

end Go.Proofs.YtbeodechhneeeaaGreatDoor.Tb


set_option linter.unusedVariables false
set_option maxRecDepth 100000
namespace Go.Proofs.YtbeodechhneeeaaGreatDoor.Tb
open Go.RowKit Go.WideMaps Go.Maps

end Go.Proofs.YtbeodechhneeeaaGreatDoor.Tb


set_option linter.unusedVariables false
set_option maxRecDepth 100000
namespace Go.Proofs.YtbeodechhneeeaaGreatDoor.Tb
open Go.RowKit Go.WideMaps Go.Maps

end Go.Proofs.YtbeodechhneeeaaGreatDoor.Tb


set_option linter.unusedVariables false
set_option maxRecDepth 100000
namespace Go.Proofs.YtbeodechhneeeaaGreatDoor.Tb
open Go.RowKit Go.WideMaps Go.Maps

end Go.Proofs.YtbeodechhneeeaaGreatDoor.Tb




/-! ### of MU -/
set_option linter.unusedVariables false
set_option maxRecDepth 100000
namespace Go.Proofs.YtbeodechhneeeaaGreatDoor.Tb
open Go.RowKit Go.WideMaps Go.Maps

end Go.Proofs.YtbeodechhneeeaaGreatDoor.Tb


set_option linter.unusedVariables false
set_option maxRecDepth 100000
namespace Go.Proofs.YtbeodechhneeeaaGreatDoor.Tb
open Go.RowKit Go.WideMaps Go.Maps

end Go.Proofs.YtbeodechhneeeaaGreatDoor.Tb


set_option linter.unusedVariables false
set_option maxRecDepth 100000
namespace Go.Proofs.YtbeodechhneeeaaGreatDoor.Tb
open Go.RowKit Go.WideMaps Go.Maps

end Go.Proofs.YtbeodechhneeeaaGreatDoor.Tb


set_option linter.unusedVariables false
set_option maxRecDepth 100000
namespace Go.Proofs.YtbeodechhneeeaaGreatDoor.Tb
open Go.RowKit Go.WideMaps Go.Maps

end Go.Proofs.YtbeodechhneeeaaGreatDoor.Tb


set_option linter.unusedVariables false
set_option linter.unusedSimpArgs false
set_option maxRecDepth 100000
namespace Go.Proofs.YtbeodechhneeeaaGreatDoor.Tb
open Go.RowKit Go.WideMaps Go.Maps

theorem rise_ext {a b : List Rw} (ha : Rise a) (hb : Rise b) (h : ∀ y, y ∈ a ↔ y ∈ b) : a = b := by
  refine List.Perm.eq_of_pairwise (le := fun x y => ltR x y = true) (fun x y _ _ q1 q2 => ?_) ha hb ((List.perm_ext_iff_of_nodup (rise_nodup ha) (rise_nodup hb)).2 h)
  rcases lt_tri x y with ⟨a1, a2, a3⟩ | ⟨a1, a2, a3⟩ | ⟨a1, a2, a3⟩
  · rw [q2] at a3; cases a3
  · rw [q1] at a1; cases a1
  · rw [q1] at a1; cases a1
end Go.Proofs.YtbeodechhneeeaaGreatDoor.Tb


set_option linter.unusedVariables false
set_option linter.unusedSimpArgs false
set_option maxRecDepth 100000
namespace Go.Proofs.YtbeodechhneeeaaGreatDoor.Tb
open Go.RowKit Go.WideMaps Go.Maps

noncomputable instance : DecidableEq Rw := fun a b => Classical.propDecidable (a = b)
theorem nm_yes {a b : ByteArray} (h : a = b) : (a.toList == b.toList) = true := by rw [h]; simp
theorem nm_no {a b : ByteArray} (h : a ≠ b) : (a.toList == b.toList) = false := by
  cases e : (a.toList == b.toList) with
  | false => rfl
  | true => exact absurd ((Go.Lib.bytes_beq_iff a b).1 e) h
theorem nm_no' {a b : ByteArray} (h : a ≠ b) : (a == b) = false := by
  cases e : (a == b) with
  | false => rfl
  | true => exact absurd ((Go.MapKept.bytes_beq a b).1 e) h
theorem d_no {a b : Bool} (h : a ≠ b) : (a == b) = false := by cases a <;> cases b <;> simp_all
theorem LiesK.spU {w : World} {ao : Option Addr} {n cap : Nat} {l : List Sp} (h : LiesK encS 2 w (.slice ao n cap) l) {i : Nat} (hi : i < n) : ∃ g o s1 s2, ao = some ⟨g, o, none⟩ ∧ l[i]? = some (s1, s2) ∧ g < w.heap.size ∧ w.cell? ⟨g, o + i * 2, none⟩ = some (.int .i64 s1) ∧ w.cell? ⟨g, o + i * 2 + 1, none⟩ = some (.int .i64 s2) := by
  obtain ⟨g, o, x, rfl, hx, hg, hc⟩ := h.at' hi
  exact ⟨g, o, x.1, x.2, rfl, hx, hg, hc 0 _ rfl, hc 1 _ rfl⟩
theorem get_in {l : List Rw} (h : Rise l) {x : Rw} (hx : x ∈ l) : getF l x.t x.r = some x := (get_some h).2 ⟨hx, rfl, rfl⟩
theorem same_sub {l m : List Rw} (hl : Rise l) (hm : Rise m) (hn : l.length = m.length) (h : ∀ x ∈ l, x ∈ m) : l = m := by
  refine rise_ext hl hm (fun y => ⟨h y, fun hy => ?_⟩)
  by_cases hyl : y ∈ l
  · exact hyl
  · exfalso
    have hnd : (y :: l).Nodup := List.nodup_cons.2 ⟨hyl, rise_nodup hl⟩
    have := List.Nodup.length_le_of_subset hnd (fun z hz => by
      rcases List.mem_cons.1 hz with e | e
      · rw [e]; exact hy
      · exact h z e)
    rw [List.length_cons] at this
    omega
set_option maxHeartbeats 12800000 in
theorem tsame_any (w : World) (p b p' b' : Nat) (l m : List Rw) (h : TabI w p b l) (h' : TabI w p' b' m) (hl : l.length < 100000) :
    Calls Tryz.prog 14 #[.pointer (some ⟨p, 0, none⟩), .pointer (some ⟨p', 0, none⟩)] w fun e w' => e = .returned (.bool (decide (l = m))) ∧ Below w.heap.size w w' := by
  have H1 := Lib.hid h
  have H2 := Lib.hid h'
  have LN1 := Lib.hid (len_any w p b l h)
  have LN2 := Lib.hid (len_any w p' b' m h')
  have ND := Lib.hid (nodes_any w p b l h hl)
  have RL := Lib.hid h.map.rise
  have RM := Lib.hid h'.map.rise
  have OK := Lib.hid h.map.oks
  clear h h'
  by_cases hne : l.length = m.length
  · have HN := Lib.hid hne
    have t0 : ((l.length : Int) != (m.length : Int)) = false := by simp [hne]
    clear hne
    go_enter Tryz.func14, Tryz.ntmps14
    go_wp2_with fail
    refine LN1.out.mono ?_
    rintro e w1 ⟨rfl, rfl⟩
    go_wp2_with fail
    refine LN2.out.mono ?_
    rintro e w1 ⟨rfl, rfl⟩
    go_wp2_with fail
    refine ND.out.mono ?_
    rintro e w1 ⟨u, rfl, ho, hb⟩
    have SK := Lib.hid (own_liesK encS_len ho)
    have B1 := Lib.hid hb
    obtain ⟨ua, uc, rfl⟩ := own_shapeK ho
    have NL := Lib.hid (show (nodesF l).length = l.length from by unfold nodesF; rw [List.length_map])
    clear ho hb ND t0 LN1 LN2
    rw [NL.out] at SK ⊢
    go_wp2
    go_loopw [19] (fun kv wr => ∃ i : Nat, kv = .int .i64 i ∧ i ≤ l.length ∧ Hid (∀ (j : Nat) z, j < i → l[j]? = some z → z ∈ m) ∧ Hid (Below w.heap.size w wr ∧ Below w1.heap.size w1 wr)) (fun kv _ => l.length - (intOf kv).toNat)
    case atStart => exact ⟨0, rfl, Nat.zero_le _, Lib.hid (fun j z h => absurd h (Nat.not_lt_zero _)), Lib.hid ⟨B1.out, Below.refl _ _⟩⟩
    case round =>
      obtain ⟨i, rfl, hi, hJ, hK⟩ := hrel
      by_cases hlt : i < l.length
      · obtain ⟨g, o, s1, s2, rfl, hs, hg, a0, a1⟩ := (SK.out.step hK.out.2).spU hlt
        obtain ⟨x, hx⟩ : ∃ x, l[i]? = some x := ⟨_, List.getElem?_eq_getElem hlt⟩
        have hst : (s1, s2) = stOf x := by
          unfold nodesF at hs
          rw [List.getElem?_map, hx] at hs
          injection hs with hs
          exact hs.symm
        injection hst with e1 e2
        subst e1 e2
        have HX := Lib.hid hx
        have XO := Lib.hid (OK.out x (List.mem_of_getElem? hx))
        have G1 := Lib.hid (fun W (hb : Below w.heap.size w W) => get_any W p b l (H1.out.step hb) x.t x.r XO.out.1 XO.out.2.1)
        rw [show gv l x.t x.r = .agg #[.int .i64 x.pt, .int .i64 x.pr, .string x.nm, .bool x.d] from by unfold gv; rw [get_in RL.out (List.mem_of_getElem? hx)]] at G1
        have G2 := Lib.hid (fun W (hb : Below w.heap.size w W) => get_any W p' b' m (H2.out.step hb) x.t x.r XO.out.1 XO.out.2.1)
        have BX := vstep wr (.cells #[.int .i64 x.t, .int .i64 x.r] 31)
        have B2 := Lib.hid (show Below w.heap.size w (wr.alloc (.cells #[.int .i64 x.t, .int .i64 x.r] 31)) ∧ Below w1.heap.size w1 (wr.alloc (.cells #[.int .i64 x.t, .int .i64 x.r] 31)) from ⟨hK.out.1.trans (BX.mono hK.out.1.size), hK.out.2.trans (BX.mono hK.out.2.size)⟩)
        have S2 := Lib.hid (StAt.new wr x.t x.r)
        clear hs hg hx BX
        go_upto_region 6 with (fail)
        obtain ⟨k2, hk2⟩ : ∃ k, wr.heap.size = k := ⟨_, rfl⟩
        rw [hk2] at S2 ⊢
        generalize (wr.alloc (.cells #[.int .i64 x.t, .int .i64 x.r] 31)) = w2 at *
        clear hk2 a0 a1 hK
        have G1w := Lib.hid (G1.out w2 B2.out.1)
        obtain ⟨c1, c2⟩ := S2.out.cells
        go_wp2_with fail
        refine G1w.out.mono ?_
        rintro e w3 ⟨rfl, hb⟩
        have BX := vstep w3 (.cells #[.int .i64 x.pt, .int .i64 x.pr, .string x.nm, .bool x.d] 47)
        have hbb := hb.trans (BX.mono hb.size)
        have B4 := Lib.hid (show Below w.heap.size w (w3.alloc (.cells #[.int .i64 x.pt, .int .i64 x.pr, .string x.nm, .bool x.d] 47)) ∧ Below w1.heap.size w1 (w3.alloc (.cells #[.int .i64 x.pt, .int .i64 x.pr, .string x.nm, .bool x.d] 47)) from ⟨B2.out.1.trans (hbb.mono B2.out.1.size), B2.out.2.trans (hbb.mono B2.out.2.size)⟩)
        have S4 := Lib.hid (S2.out.step hbb)
        have E4 := Lib.hid (EnAt.new w3 x.pt x.pr x.nm x.d)
        clear hb hbb BX c1 c2 G1 G1w B2 S2
        go_upto_region 7 with (fail)
        obtain ⟨k4, hk4⟩ : ∃ k, w3.heap.size = k := ⟨_, rfl⟩
        rw [hk4] at E4 ⊢
        generalize (w3.alloc (.cells #[.int .i64 x.pt, .int .i64 x.pr, .string x.nm, .bool x.d] 47)) = w4 at *
        clear hk4
        have G2w := Lib.hid (G2.out w4 B4.out.1)
        clear G2
        obtain ⟨c1, c2⟩ := S4.out.cells
        cases hg2 : getF m x.t x.r with
        | none =>
          obtain ⟨x1, x2, x3, x4, hxx⟩ := gv_form m x.t x.r
          rw [hxx, hg2] at G2w
          have HE := Lib.hid (show decide (l = m) = false from decide_eq_false (fun e => by
            have a := get_in RM.out (by rw [← e]; exact List.mem_of_getElem? HX.out)
            rw [hg2] at a
            cases a))
          clear hxx hg2 hJ
          go_wp2_with fail
          refine G2w.out.mono ?_
          rintro e w5 ⟨rfl, hb⟩
          have BX := vstep w5 (.cells #[.int .i64 x1, .int .i64 x2, .string x3, .bool x4] 47)
          have hbb := hb.trans (BX.mono hb.size)
          have B9 := Lib.hid (B4.out.1.trans (hbb.mono B4.out.1.size))
          clear hb hbb BX c1 c2
          go_wp2
          go_returns
          exact ⟨ret_b' HE.out, B9.out⟩
        | some y =>
          rw [show gv m x.t x.r = .agg #[.int .i64 y.pt, .int .i64 y.pr, .string y.nm, .bool y.d] from by unfold gv; rw [hg2], show (getF m x.t x.r).isSome = true from by rw [hg2]; rfl] at G2w
          have HG := Lib.hid hg2
          have HY := Lib.hid ((get_some RM.out).1 hg2)
          clear hg2
          go_wp2_with fail
          refine G2w.out.mono ?_
          rintro e w5 ⟨rfl, hb⟩
          have BX := vstep w5 (.cells #[.int .i64 y.pt, .int .i64 y.pr, .string y.nm, .bool y.d] 47)
          have hbb := hb.trans (BX.mono hb.size)
          have B8 := Lib.hid (show Below w.heap.size w (w5.alloc (.cells #[.int .i64 y.pt, .int .i64 y.pr, .string y.nm, .bool y.d] 47)) ∧ Below w1.heap.size w1 (w5.alloc (.cells #[.int .i64 y.pt, .int .i64 y.pr, .string y.nm, .bool y.d] 47)) from ⟨B4.out.1.trans (hbb.mono B4.out.1.size), B4.out.2.trans (hbb.mono B4.out.2.size)⟩)
          have E8 := Lib.hid (E4.out.step hbb)
          have F8 := Lib.hid (EnAt.new w5 y.pt y.pr y.nm y.d)
          clear hb hbb BX c1 c2 B4 E4 S4
          go_upto_region 8 with (fail)
          obtain ⟨k8, hk8⟩ : ∃ k, w5.heap.size = k := ⟨_, rfl⟩
          rw [hk8] at F8 ⊢
          generalize (w5.alloc (.cells #[.int .i64 y.pt, .int .i64 y.pr, .string y.nm, .bool y.d] 47)) = w8 at *
          clear hk8
          obtain ⟨d0, d1, d2, d3⟩ := E8.out.cells
          obtain ⟨f0, f1, f2, f3⟩ := F8.out.cells
          by_cases h_pt : x.pt = y.pt
          · by_cases h_pr : x.pr = y.pr
            · by_cases h_nm : x.nm = y.nm
              · by_cases h_d : x.d = y.d
                · have HJ2 := Lib.hid (show ∀ (j : Nat) z, j < i + 1 → l[j]? = some z → z ∈ m from fun j z hj hz => by
                    by_cases e : j = i
                    · subst e
                      rw [HX.out] at hz
                      injection hz with hz
                      rw [← hz, Rw.ext' HY.out.2.1.symm HY.out.2.2.symm h_pt h_pr h_nm h_d]
                      exact HY.out.1
                    · exact hJ.out j z (by omega) hz)
                  have q0 := beqb_ _ _ h_pt
                  have q1 := beqb_ _ _ h_pr
                  have q2 := (Go.MapKept.bytes_beq _ _).2 h_nm
                  have q2l := nm_yes h_nm
                  have q3 : (x.d == y.d) = true := by rw [h_d]; simp
                  clear h_pt h_pr h_nm h_d hJ
                  go_wp2
                  go_roundw
                  case rel => exact ⟨i + 1, by go_num, by omega, HJ2, Lib.hid B8.out⟩
                  case measure => simp [intOf]; omega
                · have q0 := beqb_ _ _ h_pt
                  have q1 := beqb_ _ _ h_pr
                  have q2 := (Go.MapKept.bytes_beq _ _).2 h_nm
                  have q2l := nm_yes h_nm
                  have q3 := d_no h_d
                  have HE := Lib.hid (show decide (l = m) = false from decide_eq_false (fun e => by
                    have a := get_in RM.out (by rw [← e]; exact List.mem_of_getElem? HX.out)
                    rw [HG.out] at a
                    injection a with a
                    exact h_d (by rw [a])))
                  clear h_pt h_pr h_nm h_d hJ
                  go_wp2
                  go_returns
                  exact ⟨ret_b' HE.out, B8.out.1⟩
              · have q0 := beqb_ _ _ h_pt
                have q1 := beqb_ _ _ h_pr
                have q2 := nm_no' h_nm
                have q2l := nm_no h_nm
                have HE := Lib.hid (show decide (l = m) = false from decide_eq_false (fun e => by
                  have a := get_in RM.out (by rw [← e]; exact List.mem_of_getElem? HX.out)
                  rw [HG.out] at a
                  injection a with a
                  exact h_nm (by rw [a])))
                clear h_pt h_pr h_nm hJ
                go_wp2
                go_returns
                exact ⟨ret_b' HE.out, B8.out.1⟩
            · have q0 := beqb_ _ _ h_pt
              have q1 := bneb_ _ _ h_pr
              have HE := Lib.hid (show decide (l = m) = false from decide_eq_false (fun e => by
                have a := get_in RM.out (by rw [← e]; exact List.mem_of_getElem? HX.out)
                rw [HG.out] at a
                injection a with a
                exact h_pr (by rw [a])))
              clear h_pt h_pr hJ
              go_wp2
              go_returns
              exact ⟨ret_b' HE.out, B8.out.1⟩
          · have q0 := bneb_ _ _ h_pt
            have HE := Lib.hid (show decide (l = m) = false from decide_eq_false (fun e => by
              have a := get_in RM.out (by rw [← e]; exact List.mem_of_getElem? HX.out)
              rw [HG.out] at a
              injection a with a
              exact h_pt (by rw [a])))
            clear h_pt hJ
            go_wp2
            go_returns
            exact ⟨ret_b' HE.out, B8.out.1⟩
      · have HE := Lib.hid (show decide (l = m) = true from decide_eq_true (same_sub RL.out RM.out HN.out (fun x hx => by
          obtain ⟨j, hj⟩ := List.mem_iff_getElem?.1 hx
          exact hJ.out j x (by have := (List.getElem?_eq_some_iff.1 hj).1; omega) hj)))
        clear hJ
        go_wp2
        go_returns
        exact ⟨ret_b' HE.out, hK.out.1⟩
  · have HE := Lib.hid (show decide (l = m) = false from decide_eq_false (fun e => hne (by rw [e])))
    have t0 : ((l.length : Int) != (m.length : Int)) = true := by simp; omega
    clear hne
    go_enter Tryz.func14, Tryz.ntmps14
    go_wp2_with fail
    refine LN1.out.mono ?_
    rintro e w1 ⟨rfl, rfl⟩
    go_wp2_with fail
    refine LN2.out.mono ?_
    rintro e w1 ⟨rfl, rfl⟩
    go_wp2
    go_returns
    exact ⟨ret_b' HE.out, Below.refl _ _⟩
end Go.Proofs.YtbeodechhneeeaaGreatDoor.Tb



