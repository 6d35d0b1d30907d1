/- TreeCuts, plain. -/
import Derived.Test.YtkmeceoilighiaaCX
set_option linter.unusedVariables false
set_option linter.unusedSimpArgs false
set_option maxRecDepth 100000
namespace Go.Proofs.Ytkmeceoilighiaa
open Go.RowKit Go.Shelf
open Tb (Rw TabI TM LiesK ltS Rise)

theorem cmp_high {t r a b : Int} (h : ltS a b t r = true) : ¬ St.cmpS t r a b ≤ 0 := by
  unfold ltS at h
  unfold St.cmpS Lib.compareInt
  split at h
  · rename_i e
    have h := of_decide_eq_true h
    rw [if_pos e.symm, if_neg (by omega), if_pos (by omega)]
    omega
  · rename_i e
    have h := of_decide_eq_true h
    rw [if_neg (fun q => e q.symm), if_neg (by omega), if_pos (by omega)]
    omega
theorem cmp_low {t r a b : Int} (h : ltS a b t r = false) : St.cmpS t r a b ≤ 0 := by
  unfold ltS at h
  unfold St.cmpS Lib.compareInt
  split at h
  · rename_i e
    have h := of_decide_eq_false h
    rw [if_pos e.symm]
    split
    · omega
    · first | omega | (split <;> omega)
  · rename_i e
    have h := of_decide_eq_false h
    rw [if_neg (fun q => e q.symm)]
    split
    · omega
    · first | omega | (split <;> omega)
theorem low_lt {x y : O} {a b : Int} (hx : ltS a b x.t x.r = false) (hy : ltS a b y.t y.r = true) : ltS x.t x.r y.t y.r = true := by
  rcases ltS_tri a b x.t x.r with ⟨h, _⟩ | ⟨_, ⟨e1, e2⟩, _⟩ | ⟨_, _, h⟩
  · rw [hx] at h; cases h
  · rw [← e1, ← e2]; exact hy
  · exact ltS_trans h hy
/-- All of it goes. -/
theorem cut_all (a b : Int) : ∀ {L : List O}, RiseO L → (∀ o ∈ L, ltS a b o.t o.r = false) → posF L a b + (if hasO L a b = true then 1 else 0) = L.length
  | [], _, _ => rfl
  | x :: L, h, hl => by
    obtain ⟨h1, h2⟩ := List.pairwise_cons.1 h
    rcases ltS_tri x.t x.r a b with ⟨q, q2, _⟩ | ⟨q, q2, _⟩ | ⟨_, _, q⟩
    · have ih := cut_all a b h2 (fun o ho => hl o (List.mem_cons_of_mem _ ho))
      have e1 : posF (x :: L) a b = posF L a b + 1 := by
        unfold posF
        rw [List.filter_cons_of_pos (p := fun x => ltO x a b) (show ltO x a b = true from q)]
        rfl
      have e2 : hasO (x :: L) a b = hasO L a b := by
        show (decide (x.t = a ∧ x.r = b) || hasO L a b) = _
        rw [decide_eq_false q2]
        rfl
      rw [e1, e2, List.length_cons]
      omega
    · have hn : L = [] := by
        cases L with
        | nil => rfl
        | cons y L =>
          have h3 := h1 y List.mem_cons_self
          rw [q2.1, q2.2] at h3
          rw [hl y (by simp)] at h3
          cases h3
      subst hn
      have e1 : posF [x] a b = 0 := by
        unfold posF
        rw [List.filter_cons_of_neg (p := fun x => ltO x a b) (by show ¬ ltS x.t x.r a b = true; rw [q]; simp)]
        rfl
      have e2 : hasO [x] a b = true := by
        show (decide (x.t = a ∧ x.r = b) || hasO [] a b) = _
        rw [decide_eq_true q2]
        rfl
      rw [e1, e2]
      rfl
    · rw [hl x List.mem_cons_self] at q
      cases q
theorem right_pos {t r : Int} (h : St.rightB t r = true) : ¬ St.cmpS t r 0 0 ≤ 0 := by
  have ht : 1 ≤ t := by
    unfold St.rightB St.rT at h
    simp only [Bool.and_eq_true, decide_eq_true_eq] at h
    omega
  unfold St.cmpS Lib.compareInt
  rw [if_neg (by omega)]
  split
  · omega
  · split <;> omega
theorem cutK_all {L : List O} {a b : Int} (hr : St.rightB a b = true) (h : RiseO L) (hl : ∀ o ∈ L, ltS a b o.t o.r = false) : cutK 0 0 L a b = L.length := by
  unfold cutK
  rw [if_neg (right_pos hr)]
  exact cut_all a b h hl
theorem addE_old {L : List O} {o : O} {a b : Int} (ho : rO o = true) (hl : ltS a b o.t o.r = false) : addE a b L o = 11 := by
  unfold addE
  rw [if_neg (by rw [ho]; simp), if_pos (cmp_low hl)]
theorem addE_high {L : List O} {o : O} {a b : Int} (ho : rO o = true) (hl : ltS a b o.t o.r = true) (hn : hasO L o.t o.r = false) : addE a b L o = 0 := by
  unfold addE
  rw [if_neg (by rw [ho]; simp), if_neg (cmp_high hl), if_neg (by rw [hn]; simp)]
theorem pos_high {A H : List O} {t r : Int} (h : ∀ x ∈ A, ltS x.t x.r t r = true) : posF (A ++ H) t r = A.length + posF H t r := by
  unfold posF
  rw [List.filter_append, show A.filter (fun x => ltO x t r) = A from List.filter_eq_self.2 (fun x hx => h x hx), List.length_append]
theorem put_high {A H : List O} {x : O} (h : ∀ y ∈ A, ltS y.t y.r x.t x.r = true) : putO (A ++ H) x = A ++ putO H x := by
  unfold putO
  rw [pos_high h, List.take_length_add_append, List.drop_length_add_append, List.append_assoc]
theorem has_app {A H : List O} {t r : Int} : hasO (A ++ H) t r = (hasO A t r || hasO H t r) := by
  unfold hasO
  rw [List.any_append]
/-- The first loop's log: what is not behind 'upto'. -/
structure LK (L u : List O) (i : Nat) (a b : Int) : Prop where
  lg : LG L i
  mem : ∀ y, y ∈ L ↔ y ∈ u.take i ∧ ltS a b y.t y.r = false
/-- The second loop's log: what is behind it. -/
structure LH (H u : List O) (i : Nat) (a b : Int) : Prop where
  lg : LG H i
  mem : ∀ y, y ∈ H ↔ y ∈ u.take i ∧ ltS a b y.t y.r = true
theorem take_mem {u : List O} {i : Nat} {x y : O} (hx : u[i]? = some x) : y ∈ u.take (i + 1) ↔ y ∈ u.take i ∨ y = x := by
  obtain ⟨h1, h2⟩ := List.getElem?_eq_some_iff.1 hx
  rw [List.take_succ_eq_append_getElem h1, h2, List.mem_append, List.mem_singleton]
theorem fresh_take {u L : List O} {i : Nat} {x : O} (hu : One u) (hx : u[i]? = some x) (hm : ∀ y ∈ L, y ∈ u.take i) : hasO L x.t x.r = false :=
  fresh (A := []) (B := u.drop (i + 1)) (K := u.take i) hu (by rw [List.nil_append, ← split_at hx]) hm
theorem LK.put {L u : List O} {i : Nat} {a b : Int} {x : O} (h : LK L u i a b) (hu : One u) (hx : u[i]? = some x) (hr : rO x = true) (ho : OkO x) (hl : ltS a b x.t x.r = false) : addE 0 0 L x = 0 ∧ LK (putO L x) u (i + 1) a b := by
  have he := addE_of hr (fresh_take hu hx (fun y hy => ((h.mem y).1 hy).1))
  refine ⟨he, h.lg.put ho he, fun y => ?_⟩
  rw [put_mem, h.mem, take_mem hx]
  constructor
  · rintro (rfl | ⟨h1, h2⟩)
    · exact ⟨.inr rfl, hl⟩
    · exact ⟨.inl h1, h2⟩
  · rintro ⟨h1 | h1, h2⟩
    · exact .inr ⟨h1, h2⟩
    · exact .inl h1
theorem LK.skip {L u : List O} {i : Nat} {a b : Int} {x : O} (h : LK L u i a b) (hx : u[i]? = some x) (hl : ltS a b x.t x.r = true) : LK L u (i + 1) a b := by
  refine ⟨h.lg.up, fun y => ?_⟩
  rw [h.mem, take_mem hx]
  constructor
  · rintro ⟨h1, h2⟩; exact ⟨.inl h1, h2⟩
  · rintro ⟨h1 | rfl, h2⟩
    · exact ⟨h1, h2⟩
    · rw [hl] at h2; cases h2
theorem LH.skip {L u : List O} {i : Nat} {a b : Int} {x : O} (h : LH L u i a b) (hx : u[i]? = some x) (hl : ltS a b x.t x.r = false) : LH L u (i + 1) a b := by
  refine ⟨h.lg.up, fun y => ?_⟩
  rw [h.mem, take_mem hx]
  constructor
  · rintro ⟨h1, h2⟩; exact ⟨.inl h1, h2⟩
  · rintro ⟨h1 | rfl, h2⟩
    · exact ⟨h1, h2⟩
    · rw [hl] at h2; cases h2
/-- What holds of an op behind 'upto'. -/
structure HI (Lo H u : List O) (i : Nat) (a b : Int) (x : O) : Prop where
  e0 : addE 0 0 (Lo ++ H) x = 0
  e1 : addE a b H x = 0
  num : addN 0 0 (Lo ++ H) x = addN a b H x
  put : putO (Lo ++ H) x = Lo ++ putO H x
  next : LH (putO H x) u (i + 1) a b
theorem LH.put {Lo H u : List O} {i : Nat} {a b : Int} {x : O} (h : LH H u i a b) (k : LK Lo u u.length a b) (hu : One u) (hx : u[i]? = some x) (hr : rO x = true) (ho : OkO x) (hl : ltS a b x.t x.r = true) : HI Lo H u i a b x := by
  have f1 := fresh_take hu hx (fun y hy => ((h.mem y).1 hy).1)
  have hlo : ∀ y ∈ Lo, ltS y.t y.r x.t x.r = true := fun y hy => low_lt ((k.mem y).1 hy).2 hl
  have f0 : hasO Lo x.t x.r = false := List.any_eq_false.2 (fun y hy => by
    have := hlo y hy
    intro hc
    have hc := of_decide_eq_true hc
    rw [hc.1, hc.2, ltS_irr] at this
    cases this)
  have f2 : hasO (Lo ++ H) x.t x.r = false := by rw [has_app, f0, f1]; rfl
  have e0 := addE_of hr f2
  have e1 := addE_high hr hl f1
  refine ⟨e0, e1, ?_, put_high hlo, ?_⟩
  · unfold addN
    rw [if_pos e0, if_pos e1, pos_high hlo, List.length_append, Nat.add_sub_add_left]
  · refine ⟨?_, fun y => ?_⟩
    · refine ⟨put_rise h.lg.rise f1, fun z hz => ?_, fun z hz => ?_, ?_⟩
      · rcases put_mem.1 hz with rfl | hz
        · exact ho
        · exact h.lg.ok z hz
      · rcases put_mem.1 hz with rfl | hz
        · exact hr
        · exact h.lg.right z hz
      · rw [put_len]; have := h.lg.len; omega
    · rw [put_mem, h.mem, take_mem hx]
      constructor
      · rintro (rfl | ⟨h1, h2⟩)
        · exact ⟨.inr rfl, hl⟩
        · exact ⟨.inl h1, h2⟩
      · rintro ⟨h1 | h1, h2⟩
        · exact .inr ⟨h1, h2⟩
        · exact .inl h1
theorem rise_both {Lo H u : List O} {i : Nat} {a b : Int} (h : LH H u i a b) (k : LK Lo u u.length a b) : RiseO (Lo ++ H) :=
  List.pairwise_append.2 ⟨k.lg.rise, h.lg.rise, fun x hx y hy => low_lt ((k.mem x).1 hx).2 ((h.mem y).1 hy).2⟩
/-! ### trees apart -/
def Apart (p q mb : Nat) (la : Option Addr) (p' q' mb' : Nat) (lb : Option Addr) : Prop := ∀ k, (HasT p mb la k ∨ k = q) → (HasT p' mb' lb k ∨ k = q') → False
theorem Apart.symm {p q mb : Nat} {la : Option Addr} {p' q' mb' : Nat} {lb : Option Addr} (h : Apart p q mb la p' q' mb' lb) : Apart p' q' mb' lb p q mb la := fun k h1 h2 => h k h2 h1
theorem TreeI.all {w : World} {B p q mb : Nat} {T0 : List Rw} {ft fr : Int} {L : List O} {la : Option Addr} {lc : Nat} (h : TreeI w B p q mb T0 ft fr L la lc) {k : Nat} (hk : HasT p mb la k ∨ k = q) : B ≤ k ∧ k < w.heap.size := by
  rcases hk with hk | rfl
  · exact h.has hk
  · exact ⟨h.lo.2.1, h.tab.plt⟩
theorem TreeI.weak {w : World} {B B' p q mb : Nat} {T0 : List Rw} {ft fr : Int} {L : List O} {la : Option Addr} {lc : Nat} (h : TreeI w B p q mb T0 ft fr L la lc) (hB : B' ≤ B) : TreeI w B' p q mb T0 ft fr L la lc :=
  ⟨h.box, h.tab, own_base h.log hB, ⟨Nat.le_trans hB h.lo.1, Nat.le_trans hB h.lo.2.1, Nat.le_trans hB h.lo.2.2⟩, h.r0⟩
theorem apart_new {w : World} {B p q mb : Nat} {T0 : List Rw} {ft fr : Int} {L : List O} {la : Option Addr} {lc : Nat} {w' : World} {B' p' q' mb' : Nat} {T0' : List Rw} {ft' fr' : Int} {L' : List O} {lb : Option Addr} {lcb : Nat}
    (h : TreeI w B p q mb T0 ft fr L la lc) (h' : TreeI w' B' p' q' mb' T0' ft' fr' L' lb lcb) (hB : w.heap.size ≤ B') : Apart p q mb la p' q' mb' lb := fun k h1 h2 => by
  have := (h.all h1).2
  have := (h'.all h2).1
  omega
theorem apart_add {w : World} {p q mb : Nat} {la : Option Addr} {g : Nat} {B' p' q' mb' : Nat} {T0' : List Rw} {ft' fr' : Int} {L' : List O} {lb : Option Addr} {lcb : Nat}
    (h' : TreeI w B' p' q' mb' T0' ft' fr' L' lb lcb) (ap : Apart p q mb la p' q' mb' lb) (hg : (lgV la 0 0).ownBlock = some g ∨ w.heap.size ≤ g) : Apart p q mb (some ⟨g, 0, none⟩) p' q' mb' lb := fun k h1 h2 => by
  rcases h1 with (rfl | rfl | e) | rfl
  · exact ap _ (.inl (.inl rfl)) h2
  · exact ap _ (.inl (.inr (.inl rfl))) h2
  · have := lgV_some e
    subst this
    rcases hg with e | e
    · exact ap _ (.inl (.inr (.inr e))) h2
    · have := (h'.all h2).2; omega
  · exact ap _ (.inr rfl) h2
theorem keep_add {w w' : World} {p q mb : Nat} {la : Option Addr} {B' p' q' mb' : Nat} {T0' : List Rw} {ft' fr' : Int} {L' : List O} {lb : Option Addr} {lcb : Nat}
    (h' : TreeI w B' p' q' mb' T0' ft' fr' L' lb lcb) (ap : Apart p q mb la p' q' mb' lb) (hf : Far (HasT p mb la) w w') : TreeI w' B' p' q' mb' T0' ft' fr' L' lb lcb :=
  h'.keep hf (fun k h1 h2 => ap k (.inl h2) h1)
/-- Addition, where nothing stands against it. -/
def AddR (w w' : World) (B p q mb : Nat) (T0 : List Rw) (ft fr : Int) (L' : List O) (la : Option Addr) : Prop := Far (HasT p mb la) w w' ∧ ∃ g lc', TreeI w' B p q mb T0 ft fr L' (some ⟨g, 0, none⟩) lc' ∧ ((lgV la 0 0).ownBlock = some g ∨ w.heap.size ≤ g)
theorem add_ok {w w' : World} {B p q mb : Nat} {T0 : List Rw} {ft fr : Int} {L : List O} {la : Option Addr} {x : O} (h0 : addE ft fr L x = 0)
    (hr : (addE ft fr L x ≠ 0 ∧ Below w.heap.size w w') ∨ (addE ft fr L x = 0 ∧ Far (HasT p mb la) w w' ∧ ∃ g lc', TreeI w' B p q mb T0 ft fr (putO L x) (some ⟨g, 0, none⟩) lc' ∧ ((lgV la 0 0).ownBlock = some g ∨ w.heap.size ≤ g))) : AddR w w' B p q mb T0 ft fr (putO L x) la := by
  rcases hr with ⟨h, _⟩ | ⟨_, h1, h2⟩
  · exact absurd h0 h
  · exact ⟨h1, h2⟩
end Go.Proofs.Ytkmeceoilighiaa
