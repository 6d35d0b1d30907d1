/- Merged by tools/merge.py: QA, QB, QC, QD, QE, QK, QF, QG. -/
import Derived.Test.YtbeodechhneeeaaGreatDoorOZ
import Derived.Test.YtbeodechhneeeaaGreatDoorProg
import Derived.Shelf.SlSortCmp.KitK
import Derived.Sort.WalkB2
import Derived.Sort.WalkB12
import Derived.Deep.LoopGhost
import Derived.Sort.Lot0
import Derived.Lib.Hide
import Derived.Handy
import Derived.Deep.Cut
import Derived.OwnWalk
import Derived.Deep.RegionHeld3
import Derived.ProofKit
import Derived.LaidMore
import Derived.OpenShut
import Derived.Stop.Joined
import Derived.SevenTiedAt
import Derived.Carry
import Derived.Lib.SmallJoins
import Derived.Deep.Slices
import Derived.Shelf.Vars
import Derived.Lay
set_option linter.unusedVariables false
set_option linter.unusedSectionVars false
namespace Go.Proofs.YtbeodechhneeeaaGreatDoor
section
variable {α : Type}
/-- What is asked of 'less'. -/
structure LtOk (lt : α → α → Bool) : Prop where
  nt : ∀ x y z, lt x y = false → lt y z = false → lt x z = false
  asy : ∀ x y, lt x y = true → lt y x = false
variable {lt : α → α → Bool}
theorem LtOk.ir (h : LtOk lt) (x : α) : lt x x = false := by
  cases e : lt x x with
  | false => rfl
  | true => have := h.asy x x e; rw [e] at this; cases this
def eqv (lt : α → α → Bool) (z x : α) : Bool := !lt x z && !lt z x
theorem eqv_self (h : LtOk lt) (x : α) : eqv lt x x = true := by unfold eqv; rw [h.ir]; rfl
theorem eqv_parts {z x : α} (h : eqv lt z x = true) : lt x z = false ∧ lt z x = false := by
  unfold eqv at h
  cases h1 : lt x z <;> cases h2 : lt z x <;> simp_all
/-- Two blocks of which the one is strictly ahead may change places. -/
theorem strict_swap (h : LtOk lt) (A B : List α) (hs : ∀ x ∈ A, ∀ y ∈ B, lt y x = true) (z : α) : (A ++ B).filter (eqv lt z) = (B ++ A).filter (eqv lt z) := by
  rw [List.filter_append, List.filter_append]
  cases hA : A.filter (eqv lt z) with
  | nil => simp
  | cons x l =>
    have hx : x ∈ A.filter (eqv lt z) := by rw [hA]; exact List.mem_cons_self ..
    obtain ⟨hx1, hx2⟩ := List.mem_filter.1 hx
    have hB : B.filter (eqv lt z) = [] := by
      rw [List.filter_eq_nil_iff]
      intro y hy hyz
      have h1 := hs x hx1 y hy
      have h2 := h.nt y z x (eqv_parts hyz).1 (eqv_parts hx2).2
      rw [h1] at h2
      cases h2
    rw [hB]; simp
variable [Inhabited α]
def seg (d : Array α) (a b : Nat) : List α := (List.range' a (b - a)).map (fun i => d[i]!)
theorem seg_split (d : Array α) {a c b : Nat} (h1 : a ≤ c) (h2 : c ≤ b) : seg d a b = seg d a c ++ seg d c b := by
  unfold seg
  rw [← List.map_append, show b - a = (c - a) + (b - c) by omega]
  congr 1
  have := List.range'_append_1 (s := a) (m := c - a) (n := b - c)
  rw [show a + (c - a) = c by omega] at this
  exact this.symm
theorem seg_shift (d r : Array α) (a b a' b' : Nat) (hl : b - a = b' - a') (h : ∀ i, i < b - a → d[a + i]! = r[a' + i]!) : seg d a b = seg r a' b' := by
  apply List.ext_getElem?
  intro i
  unfold seg
  rw [List.getElem?_map, List.getElem?_map]
  by_cases hi : i < b - a
  · rw [List.getElem?_range' (by omega), List.getElem?_range' (by omega)]
    simp only [Option.map_some, Nat.one_mul]
    rw [h i hi]
  · rw [List.getElem?_eq_none (by simp; omega), List.getElem?_eq_none (by simp; omega)]
    rfl
theorem seg_mem {d : Array α} {a b : Nat} {x : α} : x ∈ seg d a b ↔ ∃ i, a ≤ i ∧ i < b ∧ d[i]! = x := by
  unfold seg
  rw [List.mem_map]
  constructor
  · rintro ⟨i, hi, e⟩
    rw [List.mem_range'_1] at hi
    exact ⟨i, by omega, by omega, e⟩
  · rintro ⟨i, h1, h2, e⟩
    exact ⟨i, by rw [List.mem_range'_1]; omega, e⟩
def cls (lt : α → α → Bool) (d : Array α) (a b : Nat) (z : α) : List α := (seg d a b).filter (eqv lt z)
theorem cls_split (d : Array α) {a c b : Nat} (h1 : a ≤ c) (h2 : c ≤ b) (z : α) : cls lt d a b z = cls lt d a c z ++ cls lt d c b z := by
  unfold cls
  rw [seg_split d h1 h2, List.filter_append]
def OutS (d r : Array α) (a b : Nat) : Prop := r.size = d.size ∧ ∀ x, x < a ∨ b ≤ x → r[x]! = d[x]!
def SrtS (lt : α → α → Bool) (d : Array α) (a b : Nat) : Prop := ∀ x y, a ≤ x → x < y → y < b → lt d[y]! d[x]! = false
def SMS (lt : α → α → Bool) (d r : Array α) (a b : Nat) : Prop := OutS d r a b ∧ SrtS lt r a b ∧ ∀ z, cls lt r a b z = cls lt d a b z
def ROTS (d r : Array α) (a m b : Nat) : Prop := OutS d r a b ∧ (∀ x, a ≤ x → x < a + (b - m) → r[x]! = d[x + (m - a)]!) ∧ (∀ x, a + (b - m) ≤ x → x < b → r[x]! = d[x - (b - m)]!)
def SRS (d r : Array α) (a b n : Nat) : Prop := r.size = d.size ∧ (∀ x, a ≤ x → x < a + n → r[x]! = d[x + (b - a)]!) ∧ (∀ x, b ≤ x → x < b + n → r[x]! = d[x - (b - a)]!) ∧ (∀ x, (x < a ∨ a + n ≤ x) → (x < b ∨ b + n ≤ x) → r[x]! = d[x]!)
theorem cls_same {d r : Array α} {a b : Nat} (h : ∀ x, a ≤ x → x < b → r[x]! = d[x]!) (z : α) : cls lt r a b z = cls lt d a b z := by
  unfold cls
  rw [seg_shift r d a b a b rfl (fun i hi => h _ (by omega) (by omega))]
theorem OutS.refl (d : Array α) (a b : Nat) : OutS d d a b := ⟨rfl, fun _ _ => rfl⟩
theorem OutS.trans {d r s : Array α} {a b a' b' : Nat} (h : OutS d r a b) (h2 : OutS r s a' b') (h3 : a ≤ a') (h4 : b' ≤ b) : OutS d s a b := ⟨h2.1.trans h.1, fun x hx => (h2.2 x (by omega)).trans (h.2 x hx)⟩
theorem OutS.wide {d r : Array α} {a b a' b' : Nat} (h : OutS d r a b) (h3 : a' ≤ a) (h4 : b ≤ b') : OutS d r a' b' := ⟨h.1, fun x hx => h.2 x (by omega)⟩
theorem SrtS.sub {d : Array α} {a b a' b' : Nat} (h : SrtS lt d a b) (h1 : a ≤ a') (h2 : b' ≤ b) : SrtS lt d a' b' := fun x y hx hy hb => h x y (by omega) hy (by omega)
theorem SrtS.same {d r : Array α} {a b : Nat} (h : SrtS lt d a b) (he : ∀ x, a ≤ x → x < b → r[x]! = d[x]!) : SrtS lt r a b := fun x y hx hy hb => by
  rw [he x hx (by omega), he y (by omega) hb]; exact h x y hx hy hb
theorem cls_mem (hl : LtOk lt) {d r : Array α} {a b : Nat} (h : ∀ z, cls lt r a b z = cls lt d a b z) {x : Nat} (h1 : a ≤ x) (h2 : x < b) : ∃ y, a ≤ y ∧ y < b ∧ r[x]! = d[y]! := by
  have hx : r[x]! ∈ cls lt r a b r[x]! := List.mem_filter.2 ⟨seg_mem.2 ⟨x, h1, h2, rfl⟩, eqv_self hl _⟩
  rw [h] at hx
  obtain ⟨y, hy1, hy2, e⟩ := seg_mem.1 (List.mem_filter.1 hx).1
  exact ⟨y, hy1, hy2, e.symm⟩
theorem rot_seg {d r : Array α} {a m b : Nat} (h : ROTS d r a m b) (h1 : a ≤ m) (h2 : m ≤ b) : seg r a b = seg d m b ++ seg d a m := by
  rw [seg_split r (c := a + (b - m)) (by omega) (by omega)]
  congr 1
  · exact seg_shift r d _ _ _ _ (by omega) (fun i hi => by rw [h.2.1 (a + i) (by omega) (by omega)]; congr 1; omega)
  · exact seg_shift r d _ _ _ _ (by omega) (fun i hi => by rw [h.2.2 (a + (b - m) + i) (by omega) (by omega)]; congr 1; omega)
theorem rot_cls (hl : LtOk lt) {d r : Array α} {a m b : Nat} (h : ROTS d r a m b) (h1 : a ≤ m) (h2 : m ≤ b) (hs : ∀ x y, a ≤ x → x < m → m ≤ y → y < b → lt d[y]! d[x]! = true) (z : α) : cls lt r a b z = cls lt d a b z := by
  unfold cls
  rw [rot_seg h h1 h2, seg_split d h1 h2]
  refine (strict_swap hl _ _ (fun x hx y hy => ?_) z).symm
  obtain ⟨i, i1, i2, rfl⟩ := seg_mem.1 hx
  obtain ⟨j, j1, j2, rfl⟩ := seg_mem.1 hy
  exact hs i j i1 i2 j1 j2
/-- A swap of two ranges, and a rotation of what is left. -/
theorem rot_step_gt {d d' r : Array α} {a m b : Nat} (h1 : a ≤ m) (h2 : m ≤ b) (hgt : b - m < m - a) (hs : SRS d d' a m (b - m)) (hr : ROTS d' r (a + (b - m)) m b) : ROTS d r a m b := by
  obtain ⟨s0, s1, s2, s3⟩ := hs
  obtain ⟨⟨r0, r1⟩, r2, r3⟩ := hr
  refine ⟨⟨r0.trans s0, fun x hx => ?_⟩, fun x x1 x2 => ?_, fun x x1 x2 => ?_⟩
  · rw [r1 x (by omega), s3 x (by omega) (by omega)]
  · rw [r1 x (by omega), s1 x x1 x2]
  · by_cases hc : x < a + (b - m) + (b - m)
    · rw [r2 x (by omega) hc]
      by_cases hc2 : x + (m - (a + (b - m))) < m
      · omega
      · rw [s2 _ (by omega) (by omega)]; congr 1; omega
    · rw [r3 x (by omega) x2, s3 _ (by omega) (by omega)]
theorem rot_step_lt {d d' r : Array α} {a m b : Nat} (h1 : a ≤ m) (h2 : m ≤ b) (hlt : m - a < b - m) (hs : SRS d d' a (b - (m - a)) (m - a)) (hr : ROTS d' r a m (b - (m - a))) : ROTS d r a m b := by
  obtain ⟨s0, s1, s2, s3⟩ := hs
  obtain ⟨⟨r0, r1⟩, r2, r3⟩ := hr
  refine ⟨⟨r0.trans s0, fun x hx => ?_⟩, fun x x1 x2 => ?_, fun x x1 x2 => ?_⟩
  · rw [r1 x (by omega), s3 x (by omega) (by omega)]
  · by_cases hc : x < a + (b - (m - a) - m)
    · rw [r2 x x1 hc, s3 _ (by omega) (by omega)]
    · rw [r3 x (by omega) (by omega), s1 _ (by omega) (by omega)]; congr 1; omega
  · rw [r1 x (by omega), s2 x (by omega) (by omega)]; congr 1; omega
theorem rot_last {d r : Array α} {a m b : Nat} (h1 : a ≤ m) (h2 : m ≤ b) (he : m - a = b - m) (hs : SRS d r a m (m - a)) : ROTS d r a m b := by
  obtain ⟨s0, s1, s2, s3⟩ := hs
  refine ⟨⟨s0, fun x hx => s3 x (by omega) (by omega)⟩, fun x x1 x2 => s1 x x1 (by omega), fun x x1 x2 => ?_⟩
  rw [s2 x (by omega) (by omega)]; congr 1; omega
/-- The step of the merge. -/
theorem merge_step (hl : LtOk lt) {d r1 r2 r3 : Array α} {a m b mid st en : Nat} (ha : a < m) (hb : m < b) (hX : SrtS lt d a m) (hY : SrtS lt d m b)
    (he : st + en = mid + m) (s1 : a ≤ st) (s2 : st ≤ m) (e1 : m ≤ en) (e2 : en ≤ b) (c1 : st ≤ mid) (c2 : mid ≤ en)
    (f1 : a < st → en < b → lt d[en]! d[st - 1]! = false) (f2 : st < m → m < en → lt d[en - 1]! d[st]! = true)
    (h1 : (st < m ∧ m < en → ROTS d r1 st m en) ∧ (¬ (st < m ∧ m < en) → r1 = d))
    (h2 : (a < st ∧ st < mid → SMS lt r1 r2 a mid) ∧ (¬ (a < st ∧ st < mid) → r2 = r1))
    (h3 : (mid < en ∧ en < b → SMS lt r2 r3 mid b) ∧ (¬ (mid < en ∧ en < b) → r3 = r2)) : SMS lt d r3 a b := by
  have hsl : ∀ x y, st ≤ x → x < m → m ≤ y → y < en → lt d[y]! d[x]! = true := fun x y x1 x2 y1 y2 => by
    have q := f2 (by omega) (by omega)
    cases hc : lt d[y]! d[x]! with
    | true => rfl
    | false =>
      exfalso
      have k1 : lt d[en - 1]! d[y]! = false := by
        by_cases e : y = en - 1
        · subst e; exact hl.ir _
        · exact hY y (en - 1) y1 (by omega) (by omega)
      have k2 : lt d[x]! d[st]! = false := by
        by_cases e : x = st
        · subst e; exact hl.ir _
        · exact hX st x s1 (by omega) x2
      have k3 := hl.nt _ _ _ (hl.nt _ _ _ k1 hc) k2
      rw [q] at k3
      cases k3
  -- what the rotation leaves
  have hrot : OutS d r1 a b ∧ (∀ x, x < st → r1[x]! = d[x]!) ∧ (∀ x, st ≤ x → x < mid → r1[x]! = d[x + (m - st)]!) ∧ (∀ x, mid ≤ x → x < en → r1[x]! = d[x - (en - m)]!) ∧ (∀ x, en ≤ x → r1[x]! = d[x]!) ∧ ∀ z, cls lt r1 a b z = cls lt d a b z := by
    by_cases hr : st < m ∧ m < en
    · have R := h1.1 hr
      obtain ⟨o, q1, q2⟩ := R
      have RC := rot_cls hl (h1.1 hr) (by omega) (by omega) hsl
      refine ⟨o.wide s1 e2, fun x hx => o.2 x (.inl hx), fun x x1 x2 => q1 x x1 (by omega), fun x x1 x2 => q2 x (by omega) x2, fun x hx => o.2 x (.inr hx), fun z => ?_⟩
      rw [cls_split r1 (c := st) s1 (by omega), cls_split r1 (a := st) (c := en) (by omega) e2, cls_split d (c := st) s1 (by omega), cls_split d (a := st) (c := en) (by omega) e2, RC z,
        cls_same (fun x x1 x2 => o.2 x (.inl x2)) z, cls_same (fun x x1 x2 => o.2 x (.inr x1)) z]
    · have e := h1.2 hr
      subst e
      refine ⟨OutS.refl _ _ _, fun x _ => rfl, fun x x1 x2 => ?_, fun x x1 x2 => ?_, fun x _ => rfl, fun z => rfl⟩
      · congr 1; omega
      · congr 1; omega
  obtain ⟨o1, A, B, C, D, K⟩ := hrot
  have cross : ∀ x y, a ≤ x → x < mid → mid ≤ y → y < b → lt r1[y]! r1[x]! = false := fun x y x1 x2 y1 y2 => by
    by_cases hx : x < st
    · rw [A x hx]
      by_cases hy : y < en
      · rw [C y y1 hy]; exact hX x _ x1 (by omega) (by omega)
      · rw [D y (by omega)]
        have q := f1 (by omega) (by omega)
        have k1 : lt d[st - 1]! d[x]! = false := by
          by_cases e : x = st - 1
          · subst e; exact hl.ir _
          · exact hX x (st - 1) x1 (by omega) (by omega)
        have k2 : lt d[y]! d[en]! = false := by
          by_cases e : y = en
          · subst e; exact hl.ir _
          · exact hY en y e1 (by omega) y2
        exact hl.nt _ _ _ (hl.nt _ _ _ k2 q) k1
    · rw [B x (by omega) x2]
      by_cases hy : y < en
      · rw [C y y1 hy]; exact hl.asy _ _ (hsl _ _ (by omega) (by omega) (by omega) (by omega))
      · rw [D y (by omega)]; exact hY _ y (by omega) (by omega) y2
  -- the lower half
  have L2 : OutS r1 r2 a mid ∧ SrtS lt r2 a mid ∧ ∀ z, cls lt r2 a mid z = cls lt r1 a mid z := by
    by_cases hr : a < st ∧ st < mid
    · exact h2.1 hr
    · have e := h2.2 hr
      subst e
      refine ⟨OutS.refl _ _ _, fun x y x1 xy y2 => ?_, fun z => rfl⟩
      by_cases hst : st ≤ a
      · rw [B x (by omega) (by omega), B y (by omega) y2]; exact hY _ _ (by omega) (by omega) (by omega)
      · rw [A x (by omega), A y (by omega)]; exact hX x y x1 xy (by omega)
  obtain ⟨o2, S2, K2⟩ := L2
  have U3 : OutS r2 r3 mid b ∧ SrtS lt r3 mid b ∧ ∀ z, cls lt r3 mid b z = cls lt r2 mid b z := by
    by_cases hr : mid < en ∧ en < b
    · exact h3.1 hr
    · have e := h3.2 hr
      subst e
      refine ⟨OutS.refl _ _ _, fun x y x1 xy y2 => ?_, fun z => rfl⟩
      rw [o2.2 x (by omega), o2.2 y (by omega)]
      by_cases hen : en ≤ mid
      · rw [D x (by omega), D y (by omega)]; exact hY x y (by omega) xy y2
      · rw [C x x1 (by omega), C y (by omega) (by omega)]; exact hX _ _ (by omega) (by omega) (by omega)
  obtain ⟨o3, S3, K3⟩ := U3
  have hmid : a ≤ mid ∧ mid ≤ b := by omega
  refine ⟨(o1.trans o2 (Nat.le_refl _) hmid.2).trans o3 hmid.1 (Nat.le_refl _), fun x y x1 xy y2 => ?_, fun z => ?_⟩
  · by_cases hy : y < mid
    · rw [o3.2 x (by omega), o3.2 y (by omega)]; exact S2 x y x1 xy hy
    · by_cases hx : mid ≤ x
      · exact S3 x y hx xy y2
      · rw [o3.2 x (by omega)]
        obtain ⟨x', x1', x2', ex⟩ := cls_mem hl K2 x1 (show x < mid by omega)
        obtain ⟨y', y1', y2', ey⟩ := cls_mem hl K3 (show mid ≤ y by omega) y2
        rw [ex, ey, o2.2 y' (by omega)]
        exact cross x' y' x1' x2' y1' y2'
  · rw [cls_split r3 hmid.1 hmid.2, K3 z, cls_same (fun x x1 x2 => o3.2 x (.inl x2)) z, K2 z, cls_same (d := r1) (fun x x1 x2 => o2.2 x (.inr x1)) z, ← cls_split r1 hmid.1 hmid.2, K z]
/-- An exchange of two neighbours, the later one strictly ahead. -/
def nsw (d r : Array α) (i : Nat) : Prop := r.size = d.size ∧ r[i]! = d[i + 1]! ∧ r[i + 1]! = d[i]! ∧ ∀ x, x ≠ i → x ≠ i + 1 → r[x]! = d[x]!
theorem nsw_cls (hl : LtOk lt) {d r : Array α} {i a b : Nat} (h : nsw d r i) (h1 : a ≤ i) (h2 : i + 2 ≤ b) (hs : lt d[i + 1]! d[i]! = true) (z : α) : cls lt r a b z = cls lt d a b z := by
  obtain ⟨_, p1, p2, p3⟩ := h
  have R : ROTS d r i (i + 1) (i + 2) := ⟨⟨by assumption, fun x hx => p3 x (by omega) (by omega)⟩, fun x x1 x2 => by
      rw [show x = i by omega, show i + (i + 1 - i) = i + 1 by omega]; exact p1, fun x x1 x2 => by
      rw [show x = i + 1 by omega, show i + 1 - (i + 2 - (i + 1)) = i by omega]; exact p2⟩
  have RC := rot_cls hl R (by omega) (by omega) (fun x y x1 x2 y1 y2 => by rw [show x = i by omega, show y = i + 1 by omega]; exact hs) z
  rw [cls_split r (c := i) h1 (by omega), cls_split r (a := i) (c := i + 2) (by omega) h2, cls_split d (c := i) h1 (by omega), cls_split d (a := i) (c := i + 2) (by omega) h2, RC,
    cls_same (fun x x1 x2 => p3 x (by omega) (by omega)) z, cls_same (fun x x1 x2 => p3 x (by omega) (by omega)) z]
/-- Two sorted lists with the same classes are one. -/
theorem stable_one (hl : LtOk lt) : ∀ (l m : List α), l.Pairwise (fun x y => lt y x = false) → m.Pairwise (fun x y => lt y x = false) → (∀ z, l.filter (eqv lt z) = m.filter (eqv lt z)) → l = m
  | [], m, _, _, h => by
    cases m with
    | nil => rfl
    | cons y m =>
      have := h y
      rw [List.filter_nil, List.filter_cons, eqv_self hl, if_pos rfl] at this
      cases this
  | x :: l, [], _, _, h => by
    have := h x
    rw [List.filter_nil, List.filter_cons, eqv_self hl, if_pos rfl] at this
    cases this
  | x :: l, y :: m, h1, h2, h => by
    obtain ⟨a1, b1⟩ := List.pairwise_cons.1 h1
    obtain ⟨a2, b2⟩ := List.pairwise_cons.1 h2
    -- both heads are of the least class
    have hx : ∃ x' ∈ (y :: m), eqv lt x x' = true := by
      have : x ∈ (y :: m).filter (eqv lt x) := by rw [← h x, List.filter_cons, eqv_self hl, if_pos rfl]; exact List.mem_cons_self ..
      exact ⟨x, (List.mem_filter.1 this).1, eqv_self hl x⟩
    have hy : ∃ y' ∈ (x :: l), eqv lt y y' = true := by
      have : y ∈ (x :: l).filter (eqv lt y) := by rw [h y, List.filter_cons, eqv_self hl, if_pos rfl]; exact List.mem_cons_self ..
      exact ⟨y, (List.mem_filter.1 this).1, eqv_self hl y⟩
    have k1 : lt x y = false := by
      obtain ⟨x', hm, e⟩ := hx
      have h0 : lt x' y = false := by
        rcases List.mem_cons.1 hm with rfl | hm
        · exact hl.ir _
        · exact a2 x' hm
      exact hl.nt _ _ _ (eqv_parts e).2 h0
    have k2 : lt y x = false := by
      obtain ⟨y', hm, e⟩ := hy
      have h0 : lt y' x = false := by
        rcases List.mem_cons.1 hm with rfl | hm
        · exact hl.ir _
        · exact a1 y' hm
      exact hl.nt _ _ _ (eqv_parts e).2 h0
    have e : x = y := by
      have := h x
      rw [List.filter_cons, eqv_self hl, if_pos rfl, List.filter_cons, show eqv lt x y = true by unfold eqv; rw [k1, k2]; rfl, if_pos rfl] at this
      injection this
    subst e
    congr 1
    refine stable_one hl l m b1 b2 (fun z => ?_)
    have := h z
    rw [List.filter_cons, List.filter_cons] at this
    split at this
    · injection this
    · exact this
theorem seg_pair {d : Array α} {a b : Nat} (h : SrtS lt d a b) : (seg d a b).Pairwise (fun x y => lt y x = false) := by
  unfold seg
  rw [List.pairwise_map]
  refine (List.pairwise_lt_range' (s := a) (n := b - a)).imp_of_mem (fun {x y} hx hy hxy => ?_)
  rw [List.mem_range'_1] at hx hy
  exact h x y hx.1 hxy (by omega)
/-- Within the insertion sort: all but the place j is in order. -/
structure INS (lt : α → α → Bool) (d dj : Array α) (a b i j : Nat) : Prop where
  out : OutS d dj a b
  cl : ∀ z, cls lt dj a b z = cls lt d a b z
  p1 : ∀ x y, a ≤ x → x < y → y ≤ i → x ≠ j → y ≠ j → lt dj[y]! dj[x]! = false
  p2 : ∀ y, j < y → y ≤ i → lt dj[y]! dj[j]! = false
theorem INS.start {d dk : Array α} {a b i : Nat} (o : OutS d dk a b) (c : ∀ z, cls lt dk a b z = cls lt d a b z) (s : SrtS lt dk a i) : INS lt d dk a b i i :=
  ⟨o, c, fun x y x1 xy y2 n1 n2 => s x y x1 xy (by omega), fun y h1 h2 => by omega⟩
theorem INS.stop (hl : LtOk lt) {d dj : Array α} {a b i j : Nat} (h : INS lt d dj a b i j) (hj : j ≤ i) (hs : j ≤ a ∨ lt dj[j]! dj[j - 1]! = false) (ha : a ≤ j) : SrtS lt dj a (i + 1) := fun x y x1 xy y2 => by
  by_cases ex : x = j
  · subst ex; exact h.p2 y xy (by omega)
  · by_cases ey : y = j
    · subst ey
      have q := hs.resolve_left (by omega)
      by_cases e : x = y - 1
      · subst e; exact q
      · exact hl.nt _ _ _ q (h.p1 x (y - 1) x1 (by omega) (by omega) ex (by omega))
    · exact h.p1 x y x1 xy (by omega) ex ey
theorem INS.next (hl : LtOk lt) {d dj dk : Array α} {a b i j : Nat} (h : INS lt d dj a b i (j + 1)) (hn : nsw dj dk j) (ha : a ≤ j) (hj : j + 1 ≤ i) (hb : i < b) (hlt : lt dj[j + 1]! dj[j]! = true) : INS lt d dk a b i j := by
  obtain ⟨n0, n1, n2, n3⟩ := hn
  refine ⟨⟨n0.trans h.out.1, fun x hx => by rw [n3 x (by omega) (by omega)]; exact h.out.2 x hx⟩, fun z => by rw [nsw_cls hl ⟨n0, n1, n2, n3⟩ ha (by omega) hlt z]; exact h.cl z, fun x y x1 xy y2 e1 e2 => ?_, fun y y1 y2 => ?_⟩
  · by_cases ex : x = j + 1
    · subst ex
      rw [n2, n3 y (by omega) (by omega)]
      exact h.p1 j y ha (by omega) y2 (by omega) (by omega)
    · by_cases ey : y = j + 1
      · subst ey
        rw [n2, n3 x e1 ex]
        exact h.p1 x j x1 (by omega) (by omega) ex (by omega)
      · rw [n3 x e1 ex, n3 y e2 ey]
        exact h.p1 x y x1 xy y2 ex ey
  · by_cases ey : y = j + 1
    · subst ey
      rw [n2, n1]
      exact hl.asy _ _ hlt
    · rw [n3 y (by omega) ey, n1]
      exact h.p2 y (by omega) y2
theorem up_lt (hl : LtOk lt) {x y z : α} (h1 : lt y x = false) (h2 : lt y z = true) : lt x z = true := by
  cases h : lt x z with
  | true => rfl
  | false => have := hl.nt _ _ _ h1 h; rw [h2] at this; cases this
theorem up_lt' (hl : LtOk lt) {x y z : α} (h1 : lt x y = true) (h2 : lt z y = false) : lt x z = true := by
  cases h : lt x z with
  | true => rfl
  | false => have := hl.nt _ _ _ h h2; rw [h1] at this; cases this
theorem SrtS.le (hl : LtOk lt) {d : Array α} {a b x y : Nat} (h : SrtS lt d a b) (h1 : a ≤ x) (h2 : x ≤ y) (h3 : y < b) : lt d[y]! d[x]! = false := by
  by_cases e : x = y
  · subst e; exact hl.ir _
  · exact h x y h1 (by omega) h3
/-- One element moved to the right. -/
structure MVR (lt : α → α → Bool) (d dk : Array α) (a b k : Nat) : Prop where
  sz : dk.size = d.size
  lo : ∀ x, a ≤ x → x < k → dk[x]! = d[x + 1]!
  at_ : dk[k]! = d[a]!
  ot : ∀ x, x < a ∨ k < x → dk[x]! = d[x]!
  cl : ∀ z, cls lt dk a b z = cls lt d a b z
theorem MVR.start (d : Array α) (a b : Nat) : MVR lt d d a b a := ⟨rfl, fun x h1 h2 => by omega, rfl, fun x _ => rfl, fun z => rfl⟩
theorem MVR.next (hl : LtOk lt) {d dk dn : Array α} {a b k : Nat} (h : MVR lt d dk a b k) (hn : nsw dk dn k) (hk : a ≤ k) (hb : k + 2 ≤ b) (hlt : lt d[k + 1]! d[a]! = true) : MVR lt d dn a b (k + 1) := by
  have C := fun z => nsw_cls hl hn hk hb (by rw [h.at_, h.ot (k + 1) (by omega)]; exact hlt) z
  obtain ⟨n0, n1, n2, n3⟩ := hn
  refine ⟨n0.trans h.sz, fun x x1 x2 => ?_, by rw [n2]; exact h.at_, fun x hx => by rw [n3 x (by omega) (by omega)]; exact h.ot x (by omega), fun z => (C z).trans (h.cl z)⟩
  by_cases e : x = k
  · subst e; rw [n1]; exact h.ot _ (by omega)
  · rw [n3 x e (by omega)]; exact h.lo x x1 (by omega)
theorem MVR.fin (hl : LtOk lt) {d dk : Array α} {a m b i : Nat} (h : MVR lt d dk a b (i - 1)) (hm : m = a + 1) (h1 : m ≤ i) (h2 : i ≤ b) (hY : SrtS lt d m b) (f1 : ∀ x, m ≤ x → x < i → lt d[x]! d[a]! = true) (f2 : ∀ x, i ≤ x → x < b → lt d[x]! d[a]! = false) : SMS lt d dk a b := by
  refine ⟨⟨h.sz, fun x hx => h.ot x (by omega)⟩, fun x y x1 xy y2 => ?_, h.cl⟩
  by_cases hy : y < i - 1
  · rw [h.lo x x1 (by omega), h.lo y (by omega) hy]; exact hY _ _ (by omega) (by omega) (by omega)
  · by_cases ey : y = i - 1
    · subst ey
      rw [h.at_, h.lo x x1 xy]; exact hl.asy _ _ (f1 _ (by omega) (by omega))
    · rw [h.ot y (by omega)]
      by_cases hx : x < i - 1
      · rw [h.lo x x1 hx]; exact hY _ _ (by omega) (by omega) y2
      · by_cases ex : x = i - 1
        · subst ex; rw [h.at_]; exact f2 y (by omega) y2
        · rw [h.ot x (by omega)]; exact hY x y (by omega) xy y2
/-- One element moved to the left. -/
structure MVL (lt : α → α → Bool) (d dk : Array α) (a m k : Nat) : Prop where
  sz : dk.size = d.size
  hi : ∀ x, k < x → x ≤ m → dk[x]! = d[x - 1]!
  at_ : dk[k]! = d[m]!
  ot : ∀ x, x < k ∨ m < x → dk[x]! = d[x]!
  cl : ∀ z, cls lt dk a (m + 1) z = cls lt d a (m + 1) z
theorem MVL.start (d : Array α) (a m : Nat) : MVL lt d d a m m := ⟨rfl, fun x h1 h2 => by omega, rfl, fun x _ => rfl, fun z => rfl⟩
theorem MVL.next (hl : LtOk lt) {d dk dn : Array α} {a m k : Nat} (h : MVL lt d dk a m (k + 1)) (hn : nsw dk dn k) (hk : a ≤ k) (hb : k + 1 ≤ m) (hlt : lt d[m]! d[k]! = true) : MVL lt d dn a m k := by
  have C := fun z => nsw_cls hl hn hk (show k + 2 ≤ m + 1 by omega) (by rw [h.at_, h.ot k (by omega)]; exact hlt) z
  obtain ⟨n0, n1, n2, n3⟩ := hn
  refine ⟨n0.trans h.sz, fun x x1 x2 => ?_, by rw [n1]; exact h.at_, fun x hx => by rw [n3 x (by omega) (by omega)]; exact h.ot x (by omega), fun z => (C z).trans (h.cl z)⟩
  by_cases e : x = k + 1
  · subst e; rw [n2]; exact h.ot _ (by omega)
  · rw [n3 x (by omega) e]; exact h.hi x (by omega) x2
theorem MVL.fin (hl : LtOk lt) {d dk : Array α} {a m i : Nat} (h : MVL lt d dk a m i) (h1 : a ≤ i) (h2 : i ≤ m) (hX : SrtS lt d a m) (f1 : ∀ x, a ≤ x → x < i → lt d[m]! d[x]! = false) (f2 : ∀ x, i ≤ x → x < m → lt d[m]! d[x]! = true) : SMS lt d dk a (m + 1) := by
  refine ⟨⟨h.sz, fun x hx => h.ot x (by omega)⟩, fun x y x1 xy y2 => ?_, h.cl⟩
  by_cases hy : y < i
  · rw [h.ot x (by omega), h.ot y (by omega)]; exact hX x y x1 xy (by omega)
  · by_cases ey : y = i
    · subst ey
      rw [h.at_, h.ot x (by omega)]; exact f1 x x1 xy
    · rw [h.hi y (by omega) (by omega)]
      by_cases hx : x < i
      · rw [h.ot x (by omega)]; exact hX _ _ x1 (by omega) (by omega)
      · by_cases ex : x = i
        · subst ex; rw [h.at_]; exact hl.asy _ _ (f2 _ (by omega) (by omega))
        · rw [h.hi x (by omega) (by omega)]; exact hX _ _ (by omega) (by omega) (by omega)
end
end Go.Proofs.YtbeodechhneeeaaGreatDoor


set_option linter.unusedVariables false
set_option linter.unusedSimpArgs false
set_option maxRecDepth 1000000
namespace Go.Proofs.YtbeodechhneeeaaGreatDoor
open Go.Shelf Go.RowKit Go.Lib Go.Sort

structure LS (P : Program) : Prop where
  mixed : P.follows .mixedOrders = true
  f84 : P.funcs[96]? = some Tryz.f96
  f88 : P.funcs[107]? = some Tryz.f107
  f89 : P.funcs[108]? = some Tryz.f108
  f92 : P.funcs[123]? = some Tryz.f123
  f97 : P.funcs[133]? = some Tryz.f133
  t0 : P.underlying 0 = some (TypeDesc.tuple #[])
  a0 : ∀ w, (isAgg 0).run P w = .ok false w
  z0 : ∀ w, (Go.sizeOf 0).run P w = .ok 1 w
  v0 : ∀ w, (zeroValue 0).run P w = .ok (Value.tuple #[]) w
  t3 : P.underlying 3 = some (TypeDesc.int IntKind.i64)
  a3 : ∀ w, (isAgg 3).run P w = .ok false w
  z3 : ∀ w, (Go.sizeOf 3).run P w = .ok 1 w
  v3 : ∀ w, (zeroValue 3).run P w = .ok (Value.int IntKind.i64 0) w
  t4 : P.underlying 4 = some (TypeDesc.bool)
  a4 : ∀ w, (isAgg 4).run P w = .ok false w
  z4 : ∀ w, (Go.sizeOf 4).run P w = .ok 1 w
  v4 : ∀ w, (zeroValue 4).run P w = .ok (Value.bool false) w
  t27 : P.underlying 22 = some (TypeDesc.slice 33)
  a27 : ∀ w, (isAgg 22).run P w = .ok false w
  z27 : ∀ w, (Go.sizeOf 22).run P w = .ok 1 w
  v27 : ∀ w, (zeroValue 22).run P w = .ok (Value.slice none 0 0) w
  t33 : P.underlying 109 = some (TypeDesc.func #[33, 33] #[3] false)
  a33 : ∀ w, (isAgg 109).run P w = .ok false w
  z33 : ∀ w, (Go.sizeOf 109).run P w = .ok 1 w
  v33 : ∀ w, (zeroValue 109).run P w = .ok (Value.nilFunc) w
  t97 : P.underlying 130 = some (TypeDesc.int IntKind.u64)
  a97 : ∀ w, (isAgg 130).run P w = .ok false w
  z97 : ∀ w, (Go.sizeOf 130).run P w = .ok 1 w
  v97 : ∀ w, (zeroValue 130).run P w = .ok (Value.int IntKind.u64 0) w
variable {P : Program} {α : Type} [Inhabited α]
theorem nsw_swp (d : Array α) {i : Nat} (hi : i + 1 < d.size) : nsw d (swp d i (i + 1)) i := ⟨size_swp d _ _, swp_left d _ _ (by omega) (by omega), swp_right d _ _ hi, fun x h1 h2 => swp_other d _ _ _ h1 h2⟩
theorem nsw_swp' (d : Array α) {i : Nat} (hi : i + 1 < d.size) : nsw d (swp d (i + 1) i) i := ⟨size_swp d _ _, swp_right d _ _ (by omega), swp_left d _ _ hi (by omega), fun x h1 h2 => swp_other d _ _ _ h2 h1⟩
set_option maxHeartbeats 4000000 in
theorem swapRange_any (L : LS P) (k : Nat) (aE : ∀ w, (isAgg 33).run P w = .ok true w) (zE : ∀ w, (Go.sizeOf 33).run P w = .ok k w) (enc : α → List Value) (g : Nat) (blk off cap : Nat) (d0 : Array α) (w0 : World) (R : RowK enc k w0 blk off d0) (d : Array α) (w : World) (hs : d0.size = d.size) (S : SWK enc k w0 blk off d w) (a b n : Nat) (hab : a + n ≤ b) (hb : b + n ≤ d.size) (hsz : d.size < 4611686018427387904) :
    Calls P 133 #[.slice (some ⟨blk, off, none⟩) d.size cap, .int .i64 a, .int .i64 b, .int .i64 n, .func (.func g) #[] #[]] w fun e w' => e = .returned (.tuple #[]) ∧ ∃ r : Array α, SRS d r a b n ∧ SWK enc k w0 blk off r w' := by
  have mixed := L.mixed; have t0 := L.t0; have a0 := L.a0; have z0 := L.z0; have v0 := L.v0; have t3 := L.t3; have a3 := L.a3; have z3 := L.z3; have v3 := L.v3; have t4 := L.t4; have a4 := L.a4; have z4 := L.z4; have v4 := L.v4; have t27 := L.t27; have a27 := L.a27; have z27 := L.z27; have v27 := L.v27; have t33 := L.t33; have a33 := L.a33; have z33 := L.z33; have v33 := L.v33; have t97 := L.t97; have a97 := L.a97; have z97 := L.z97; have v97 := L.v97
  have S0 : Aside (SWK enc k w0 blk off d w) := S
  clear S
  go_enter L.f97, Tryz.ntmps133
  go_wp2
  go_loopg [10] n (fun kx s10 wr => ∃ (i : Nat) (dk : Array α), s10 = .int .i64 i ∧ i ≤ n ∧ n - i ≤ kx ∧ dk.size = d.size ∧ Aside (SWK enc k w0 blk off dk wr) ∧ Hid (SRS d dk a b i))
  case atStart => exact ⟨0, d, rfl, Nat.zero_le _, by omega, rfl, S0, show SRS d d a b 0 from ⟨rfl, fun x h1 h2 => by omega, fun x h1 h2 => by omega, fun x _ _ => rfl⟩⟩
  case round =>
    clear S0
    obtain ⟨i, dk, rfl, hin, hkx, hds, S1, HQ⟩ := hrel
    by_cases hlt : i < n
    · have hltz : (i : Int) < (n : Int) := by omega
      go_wp2_with fail
      have eas : ((a : Int) + (i : Int)).toNat = a + i := by omega
      have pas : (0 : Int) ≤ (a : Int) + (i : Int) := by omega
      have bas : (a : Int) + (i : Int) < (d.size : Int) := by omega
      have ras : IntKind.i64.wrap ((a : Int) + (i : Int)) = (a : Int) + (i : Int) := by rw [IntKind.wrap_i64]; omega
      have ecs : ((b : Int) + (i : Int)).toNat = b + i := by omega
      have pcs : (0 : Int) ≤ (b : Int) + (i : Int) := by omega
      have bcs : (b : Int) + (i : Int) < (d.size : Int) := by omega
      have rcs : IntKind.i64.wrap ((b : Int) + (i : Int)) = (b : Int) + (i : Int) := by rw [IntKind.wrap_i64]; omega
      have S2 : Aside (SWK enc k w0 blk off (swp dk (a + i) (b + i)) ((wr.drew.setCells blk (off + (a + i) * k) (enc dk[b + i]!)).setCells blk (off + (b + i) * k) (enc dk[a + i]!))) := S1.out.swapped R (a + i) (b + i) (by omega) (by omega)
      have las := S1.out.ld1 R (by omega) P (a + i) (by omega)
      have lbs := S1.out.ld1 R (by omega) P (b + i) (by omega)
      have sas := S1.out.st1 R (by omega) P (a + i) (by omega) dk[b + i]!
      have sbs := S1.out.st2 R (by omega) P (a + i) (b + i) (by omega) (by omega) dk[b + i]! dk[a + i]!
      have nas : (enc dk[a + i]!).length = k := R.hk _
      have nbs : (enc dk[b + i]!).length = k := R.hk _
      generalize enc dk[a + i]! = cIs at S2 las sbs nas
      generalize enc dk[b + i]! = cJs at S2 lbs sas sbs nbs
      clear S1
      go_wp2_with fail
      go_big_region_o
      clear las lbs sas sbs
      generalize (wr.drew.setCells blk (off + (a + i) * k) cJs).setCells blk (off + (b + i) * k) cIs = w2 at S2 ⊢
      go_wp2
      go_roundg (n - (i + 1))
      case measure => omega
      case rel =>
        refine ⟨i + 1, swp dk (a + i) (b + i), by simp, by omega, Nat.le_refl _, by rw [size_swp]; exact hds, S2, show SRS d _ a b (i + 1) from ?_⟩
        obtain ⟨q0, q1, q2, q3⟩ := HQ.out
        refine ⟨by rw [size_swp]; exact hds, fun x x1 x2 => ?_, fun x x1 x2 => ?_, fun x x1 x2 => ?_⟩
        · by_cases e : x = a + i
          · subst e
            rw [swp_left _ _ _ (by omega) (by omega), q3 (b + i) (by omega) (by omega)]; congr 1; omega
          · rw [swp_other _ _ _ _ e (by omega), q1 x x1 (by omega)]
        · by_cases e : x = b + i
          · subst e
            rw [swp_right _ _ _ (by omega), q3 (a + i) (by omega) (by omega)]; congr 1; omega
          · rw [swp_other _ _ _ _ (by omega) e, q2 x x1 (by omega)]
        · rw [swp_other _ _ _ _ (by omega) (by omega), q3 x (by omega) (by omega)]
    · have hltz : ¬ (i : Int) < (n : Int) := by omega
      have e : i = n := by omega
      subst e
      go_wp2
      go_end0
      exact ⟨rfl, dk, HQ.out, S1.out⟩
set_option maxHeartbeats 4000000 in
theorem rotate_any (L : LS P) (k : Nat) (aE : ∀ w, (isAgg 33).run P w = .ok true w) (zE : ∀ w, (Go.sizeOf 33).run P w = .ok k w) (enc : α → List Value) (g : Nat) (blk off cap : Nat) (d0 : Array α) (w0 : World) (R : RowK enc k w0 blk off d0) (d : Array α) (w : World) (hs : d0.size = d.size) (S : SWK enc k w0 blk off d w) (a m b : Nat) (h1 : a < m) (h2 : m < b) (hb : b ≤ d.size) (hsz : d.size < 4611686018427387904) :
    Calls P 123 #[.slice (some ⟨blk, off, none⟩) d.size cap, .int .i64 a, .int .i64 m, .int .i64 b, .func (.func g) #[] #[]] w fun e w' => e = .returned (.tuple #[]) ∧ ∃ r : Array α, ROTS d r a m b ∧ SWK enc k w0 blk off r w' := by
  have mixed := L.mixed; have t0 := L.t0; have a0 := L.a0; have z0 := L.z0; have v0 := L.v0; have t3 := L.t3; have a3 := L.a3; have z3 := L.z3; have v3 := L.v3; have t4 := L.t4; have a4 := L.a4; have z4 := L.z4; have v4 := L.v4; have t27 := L.t27; have a27 := L.a27; have z27 := L.z27; have v27 := L.v27; have t33 := L.t33; have a33 := L.a33; have z33 := L.z33; have v33 := L.v33; have t97 := L.t97; have a97 := L.a97; have z97 := L.z97; have v97 := L.v97
  have e97 : ∀ args w, (callFunc 133 args).run P w = .ok (.enter 133 args) w := enters_of L.f97 (by kernel_rfl) rfl
  have SR := Lib.hid (fun (dk : Array α) (wr : World) (hd : dk.size = d.size) (S : SWK enc k w0 blk off dk wr) (a b n : Nat) (hab : a + n ≤ b) (hb : b + n ≤ d.size) => by
    have := swapRange_any L k aE zE enc g blk off cap d0 w0 R dk wr (hs.trans hd.symm) S a b n hab (by omega) (by omega)
    rw [hd] at this
    exact this)
  have S0 : Aside (SWK enc k w0 blk off d w) := S
  clear S
  have eI : (m : Int) - (a : Int) = ((m - a : Nat) : Int) := by omega
  have eJ : (b : Int) - (m : Int) = ((b - m : Nat) : Int) := by omega
  obtain ⟨I, hI⟩ : ∃ I, m - a = I := ⟨_, rfl⟩
  obtain ⟨J, hJ⟩ : ∃ J, b - m = J := ⟨_, rfl⟩
  rw [hI] at eI
  rw [hJ] at eJ
  have HI := Lib.hid hI
  have HJ := Lib.hid hJ
  have HB := Lib.hid (And.intro h1 (And.intro h2 hb))
  have hIb : I < 4611686018427387904 := by omega
  have hJb0 : J < 4611686018427387904 := by omega
  clear hI hJ h1 h2 hb
  go_enter L.f92, Tryz.ntmps123
  go_wp2_with fail
  go_loopg [10, 11] (I + J) (fun kx s10 s11 wr => ∃ (i j : Nat) (dk : Array α), s10 = .int .i64 i ∧ s11 = .int .i64 j ∧ 0 < i ∧ 0 < j ∧ i ≤ I ∧ j ≤ J ∧ i + j ≤ kx ∧ dk.size = d.size ∧ Aside (SWK enc k w0 blk off dk wr) ∧ Hid (∀ r, ROTS dk r (m - i) m (m + j) → ROTS d r a m b))
  case atStart => exact ⟨I, J, d, by first | rfl | rw [eI] | (congr 1; rw [wrap64_of_bounds] <;> omega), by first | rfl | rw [eJ] | (congr 1; rw [wrap64_of_bounds] <;> omega), by have := HI.out; have := HB.out.1; omega, by have := HJ.out; have := HB.out.2.1; omega, Nat.le_refl _, Nat.le_refl _, Nat.le_refl _, rfl, S0, (show ∀ r, ROTS d r (m - I) m (m + J) → ROTS d r a m b from fun r h => by
    have := HI.out; have := HJ.out; have := HB.out
    rw [show m - I = a by omega, show m + J = b by omega] at h; exact h)⟩
  case round =>
    clear S0
    obtain ⟨i, j, dk, rfl, rfl, hi0, hj0, hiI, hjJ, hkx, hds, S1, HQ⟩ := hrel
    have hIa := HI.out
    have hJb := HJ.out
    have hBB := HB.out
    have emi : (m : Int) - (i : Int) = ((m - i : Nat) : Int) := by omega
    by_cases he : i = j
    · subst he
      have hx := SR.out dk wr hds S1.out (m - i) m i (by omega) (by omega)
      have HX := Lib.hid hx
      clear hx S1
      go_wp2_with fail
      refine HX.out.mono ?_
      rintro e w1 ⟨rfl, r, hr, hS⟩
      go_wp2
      go_end0
      exact ⟨rfl, r, HQ.out r (rot_last (by omega) (by omega) (by omega) (by rw [show m - (m - i) = i by omega]; exact hr)), hS⟩
    · have hne : ((i : Int) != (j : Int)) = true := by simp; omega
      have hne2 : ((i : Int) == (j : Int)) = false := by simp; omega
      by_cases hgt : j < i
      · have hgtz : (j : Int) < (i : Int) := by omega
        have hx := SR.out dk wr hds S1.out (m - i) m j (by omega) (by omega)
        have HX := Lib.hid hx
        have ed : (i : Int) - (j : Int) = ((i - j : Nat) : Int) := by omega
        clear hx S1
        go_wp2_with fail
        refine HX.out.mono ?_
        rintro e w1 ⟨rfl, r1, hr, hS⟩
        go_wp2
        go_roundg (i - j + j)
        case measure => omega
        case rel => exact ⟨i - j, j, r1, by rw [← ed], rfl, by omega, hj0, by omega, hjJ, Nat.le_refl _, hr.1.trans hds, hS, (show ∀ r, ROTS r1 r (m - (i - j)) m (m + j) → ROTS d r a m b from fun r h => HQ.out r (rot_step_gt (d' := r1) (by omega) (by omega) (by omega) (by rw [show m + j - m = j by omega]; exact hr) (by rw [show m - i + (m + j - m) = m - (i - j) by omega]; exact h)))⟩
      · have hgtz : ¬ (j : Int) < (i : Int) := by omega
        have emj : (m : Int) + (j : Int) - (i : Int) = ((m + j - i : Nat) : Int) := by omega
        have ed : (j : Int) - (i : Int) = ((j - i : Nat) : Int) := by omega
        have hx := SR.out dk wr hds S1.out (m - i) (m + j - i) i (by omega) (by omega)
        have HX := Lib.hid hx
        clear hx S1
        go_wp2_with fail
        refine HX.out.mono ?_
        rintro e w1 ⟨rfl, r1, hr, hS⟩
        go_wp2
        go_roundg (i + (j - i))
        case measure => omega
        case rel => exact ⟨i, j - i, r1, rfl, by rw [← ed], hi0, by omega, hiI, by omega, Nat.le_refl _, hr.1.trans hds, hS, (show ∀ r, ROTS r1 r (m - i) m (m + (j - i)) → ROTS d r a m b from fun r h => HQ.out r (rot_step_lt (d' := r1) (by omega) (by omega) (by omega) (by rw [show m - (m - i) = i by omega]; exact hr) (by rw [show m + j - (m - (m - i)) = m + (j - i) by omega]; exact h)))⟩
end Go.Proofs.YtbeodechhneeeaaGreatDoor


set_option linter.unusedVariables false
set_option linter.unusedSimpArgs false
set_option maxRecDepth 1000000
namespace Go.Proofs.YtbeodechhneeeaaGreatDoor
open Go.Shelf Go.RowKit Go.Lib Go.Sort

variable {P : Program} {α : Type} [Inhabited α]
set_option maxHeartbeats 4000000 in
theorem insert_any (L : LS P) (k : Nat) (aE : ∀ w, (isAgg 33).run P w = .ok true w) (zE : ∀ w, (Go.sizeOf 33).run P w = .ok k w) (enc : α → List Value) (g : Nat) (blk off cap : Nat) (d0 : Array α) (w0 : World) (R : RowK enc k w0 blk off d0) (cf : α → α → Int) (eg : ∀ args w, (callFunc g args).run P w = .ok (.enter g args) w) (hcmp : CmpLays P g #[] enc k cf blk off d0.size w0) (hl : LtOk (ltOf cf)) (d : Array α) (w : World) (hs : d0.size = d.size) (S : SWK enc k w0 blk off d w) (a b : Nat) (hab : a ≤ b) (hb : b ≤ d.size) (hsz : d.size < 4611686018427387904) :
    Calls P 107 #[.slice (some ⟨blk, off, none⟩) d.size cap, .int .i64 a, .int .i64 b, .func (.func g) #[] #[]] w fun e w' => e = .returned (.tuple #[]) ∧ ∃ r : Array α, SMS (ltOf cf) d r a b ∧ SWK enc k w0 blk off r w' := by
  have mixed := L.mixed; have t0 := L.t0; have a0 := L.a0; have z0 := L.z0; have v0 := L.v0; have t3 := L.t3; have a3 := L.a3; have z3 := L.z3; have v3 := L.v3; have t4 := L.t4; have a4 := L.a4; have z4 := L.z4; have v4 := L.v4; have t27 := L.t27; have a27 := L.a27; have z27 := L.z27; have v27 := L.v27; have t33 := L.t33; have a33 := L.a33; have z33 := L.z33; have v33 := L.v33; have t97 := L.t97; have a97 := L.a97; have z97 := L.z97; have v97 := L.v97
  have HC : Aside _ := hcmp
  have HLT : Aside _ := hl
  have S0 : Aside (SWK enc k w0 blk off d w) := S
  clear hcmp hl S
  go_enter L.f88, Tryz.ntmps107
  go_wp2
  go_loopg [8] (b - a) (fun g1 vi wr => ∃ (i : Nat) (dk : Array α), vi = .int .i64 i ∧ a < i ∧ i ≤ b + 1 ∧ (i ≤ b ∨ a = b) ∧ b + 1 - i ≤ g1 + 1 ∧ dk.size = d.size ∧ Aside (SWK enc k w0 blk off dk wr) ∧ Hid (OutS d dk a b ∧ (∀ z, cls (ltOf cf) dk a b z = cls (ltOf cf) d a b z) ∧ SrtS (ltOf cf) dk a i))
  case atStart => exact ⟨a + 1, d, by go_num, by omega, by omega, by omega, by omega, rfl, S0, (show OutS d d a b ∧ _ ∧ _ from ⟨OutS.refl _ _ _, fun z => rfl, fun x y x1 xy y2 => by omega⟩)⟩
  case round =>
    clear S0
    obtain ⟨i, dk, rfl, hai, hib, hib2, hg1, hsk, S1, HO⟩ := hrel
    by_cases hlt : i < b
    · have hltz : (i : Int) < (b : Int) := by omega
      go_wp2
      go_loopg [9] i (fun g2 vj wr2 => ∃ (j : Nat) (dj : Array α), vj = .int .i64 j ∧ a ≤ j ∧ j ≤ i ∧ j ≤ g2 ∧ dj.size = d.size ∧ Aside (SWK enc k w0 blk off dj wr2) ∧ Hid (INS (ltOf cf) d dj a b i j))
      case atStart => exact ⟨i, dk, rfl, by omega, Nat.le_refl _, Nat.le_refl _, hsk, S1, (show INS (ltOf cf) d dk a b i i from INS.start HO.out.1 HO.out.2.1 HO.out.2.2)⟩
      case round =>
        clear S1
        obtain ⟨j, dj, rfl, haj, hji, hg2, hsj, S1, HI⟩ := hrel
        by_cases hja : a < j
        · have hjaz : (a : Int) < (j : Int) := by omega
          obtain ⟨jp, rfl⟩ : ∃ jp, j = jp + 1 := ⟨j - 1, by omega⟩
          have hjaz' : (a : Int) < (jp : Int) + 1 := by omega
          cases hlv : ltOf cf dj[jp + 1]! dj[jp]! with
          | true =>
            have eac : ((jp : Int) + 1).toNat = jp + 1 := by omega
            have pac : (0 : Int) ≤ (jp : Int) + 1 := by omega
            have bac : (jp : Int) + 1 < (d.size : Int) := by omega
            have rac : IntKind.i64.wrap ((jp : Int) + 1) = (jp : Int) + 1 := by rw [IntKind.wrap_i64]; omega
            have ecc : ((jp : Int)).toNat = jp := by omega
            have pcc : (0 : Int) ≤ (jp : Int) := by omega
            have bcc : (jp : Int) < (d.size : Int) := by omega
            have rcc : IntKind.i64.wrap ((jp : Int)) = (jp : Int) := by rw [IntKind.wrap_i64]; omega
            obtain ⟨xc, hxc⟩ : ∃ x, x = dj[jp + 1]! := ⟨_, rfl⟩
            obtain ⟨yc, hyc⟩ : ∃ x, x = dj[jp]! := ⟨_, rfl⟩
            have lac := S1.out.ld R (by omega) P (jp + 1) (by omega)
            have lbc := S1.out.ld R (by omega) P (jp) (by omega)
            rw [← hxc] at lac
            rw [← hyc] at lbc
            have hcc := S1.out.cmp HC.out (by omega) xc yc
            have hvc : cf xc yc < 0 := by rw [hxc, hyc]; exact of_decide_eq_true (hlv)
            have hdc : decide (cf xc yc < 0) = true := decide_eq_true hvc
            clear hxc hyc
            go_wp2_with fail
            go_quiet_grown (first | (go_at_fn g; refine Calls.grown_of (hcc _ _)))
            have S2 : Aside (SWK enc k w0 blk off dj (grow (wr.drewN nq) osq)) := S1.out.grown nq osq
            clear lac lbc hcc S1
            generalize grow (wr.drewN nq) osq = w2 at S2 ⊢
            clear nq osq
            go_wp2_with fail
            have eas : ((jp : Int) + 1).toNat = jp + 1 := by omega
            have pas : (0 : Int) ≤ (jp : Int) + 1 := by omega
            have bas : (jp : Int) + 1 < (d.size : Int) := by omega
            have ras : IntKind.i64.wrap ((jp : Int) + 1) = (jp : Int) + 1 := by rw [IntKind.wrap_i64]; omega
            have ecs : ((jp : Int)).toNat = jp := by omega
            have pcs : (0 : Int) ≤ (jp : Int) := by omega
            have bcs : (jp : Int) < (d.size : Int) := by omega
            have rcs : IntKind.i64.wrap ((jp : Int)) = (jp : Int) := by rw [IntKind.wrap_i64]; omega
            have S3 : Aside (SWK enc k w0 blk off (swp dj (jp + 1) (jp)) ((w2.drew.setCells blk (off + (jp + 1) * k) (enc dj[jp]!)).setCells blk (off + (jp) * k) (enc dj[jp + 1]!))) := S2.out.swapped R (jp + 1) (jp) (by omega) (by omega)
            have las := S2.out.ld1 R (by omega) P (jp + 1) (by omega)
            have lbs := S2.out.ld1 R (by omega) P (jp) (by omega)
            have sas := S2.out.st1 R (by omega) P (jp + 1) (by omega) dj[jp]!
            have sbs := S2.out.st2 R (by omega) P (jp + 1) (jp) (by omega) (by omega) dj[jp]! dj[jp + 1]!
            have nas : (enc dj[jp + 1]!).length = k := R.hk _
            have nbs : (enc dj[jp]!).length = k := R.hk _
            generalize enc dj[jp + 1]! = cIs at S3 las sbs nas
            generalize enc dj[jp]! = cJs at S3 lbs sas sbs nbs
            clear S2
            go_wp2_with fail
            go_big_region_o
            clear las lbs sas sbs
            generalize (w2.drew.setCells blk (off + (jp + 1) * k) cJs).setCells blk (off + (jp) * k) cIs = w3 at S3 ⊢
            go_wp2
            go_roundg jp
            case measure => omega
            case rel => exact ⟨jp, swp dj (jp + 1) jp, by first | rfl | go_num | (congr 1; omega), by omega, by omega, Nat.le_refl _, by rw [size_swp]; exact hsj, S3, (show INS (ltOf cf) d _ a b i jp from INS.next HLT.out HI.out (nsw_swp' dj (by omega)) (by omega) (by omega) hlt hlv)⟩
          | false =>
            have hst := INS.stop HLT.out HI.out hji (Or.inr hlv) haj
            have HST : Aside _ := hst
            clear hst
            have eac : ((jp : Int) + 1).toNat = jp + 1 := by omega
            have pac : (0 : Int) ≤ (jp : Int) + 1 := by omega
            have bac : (jp : Int) + 1 < (d.size : Int) := by omega
            have rac : IntKind.i64.wrap ((jp : Int) + 1) = (jp : Int) + 1 := by rw [IntKind.wrap_i64]; omega
            have ecc : ((jp : Int)).toNat = jp := by omega
            have pcc : (0 : Int) ≤ (jp : Int) := by omega
            have bcc : (jp : Int) < (d.size : Int) := by omega
            have rcc : IntKind.i64.wrap ((jp : Int)) = (jp : Int) := by rw [IntKind.wrap_i64]; omega
            obtain ⟨xc, hxc⟩ : ∃ x, x = dj[jp + 1]! := ⟨_, rfl⟩
            obtain ⟨yc, hyc⟩ : ∃ x, x = dj[jp]! := ⟨_, rfl⟩
            have lac := S1.out.ld R (by omega) P (jp + 1) (by omega)
            have lbc := S1.out.ld R (by omega) P (jp) (by omega)
            rw [← hxc] at lac
            rw [← hyc] at lbc
            have hcc := S1.out.cmp HC.out (by omega) xc yc
            have hvc : ¬ cf xc yc < 0 := by rw [hxc, hyc]; exact of_decide_eq_false (hlv)
            have hdc : decide (cf xc yc < 0) = false := decide_eq_false hvc
            clear hxc hyc
            go_wp2_with fail
            go_quiet_grown (first | (go_at_fn g; refine Calls.grown_of (hcc _ _)))
            have S2 : Aside (SWK enc k w0 blk off dj (grow (wr.drewN nq) osq)) := S1.out.grown nq osq
            clear lac lbc hcc S1
            generalize grow (wr.drewN nq) osq = w2 at S2 ⊢
            clear nq osq
            go_wp2
            go_roundg (b - (i + 1))
            case measure => omega
            case rel => exact ⟨i + 1, dj, by go_num, by omega, by omega, by omega, by omega, hsj, S2, (show OutS d dj a b ∧ _ ∧ _ from ⟨HI.out.out, HI.out.cl, HST.out⟩)⟩
        · have hjaz : decide ((j : Int) > (a : Int)) = false := decide_eq_false (by omega)
          have hjaz' : ¬ (a : Int) < (j : Int) := by omega
          have hst := INS.stop HLT.out HI.out hji (Or.inl (by omega)) haj
          have HST : Aside _ := hst
          have S2 : Aside (SWK enc k w0 blk off dj wr.drew) := S1.out.drew
          clear hst S1
          go_wp2_with fail
          go_big_region_o
          all_goals go_wp2
          go_roundg (b - (i + 1))
          case measure => omega
          case rel => exact ⟨i + 1, dj, by go_num, by omega, by omega, by omega, by omega, hsj, S2, (show OutS d dj a b ∧ _ ∧ _ from ⟨HI.out.out, HI.out.cl, HST.out⟩)⟩
    · have hltz : ¬ (i : Int) < (b : Int) := by omega
      go_wp2
      go_end0
      exact ⟨rfl, dk, ⟨HO.out.1, HO.out.2.2.sub (Nat.le_refl _) (by omega), HO.out.2.1⟩, S1.out⟩
end Go.Proofs.YtbeodechhneeeaaGreatDoor


set_option linter.unusedVariables false
set_option linter.unusedSimpArgs false
set_option maxRecDepth 1000000
namespace Go.Proofs.YtbeodechhneeeaaGreatDoor
open Go.Shelf Go.RowKit Go.Lib Go.Sort

variable {P : Program} {α : Type} [Inhabited α]
theorem pieceL {lt : α → α → Bool} {d r1 : Array α} {a j m en : Nat} (q : (j < m ∧ m < en → ROTS d r1 j m en) ∧ (¬ (j < m ∧ m < en) → r1 = d)) (h2 : j ≤ m) (hX : SrtS lt d a m) : SrtS lt r1 a j := by
  refine (hX.sub (Nat.le_refl _) h2).same (fun x x1 x2 => ?_)
  by_cases hr : j < m ∧ m < en
  · exact (q.1 hr).1.2 x (.inl x2)
  · rw [q.2 hr]
theorem pieceM {lt : α → α → Bool} {d r1 : Array α} {j m en mid b : Nat} (q : (j < m ∧ m < en → ROTS d r1 j m en) ∧ (¬ (j < m ∧ m < en) → r1 = d)) (hse : j + en = mid + m) (h2 : j ≤ m) (h3 : m ≤ en) (h4 : en ≤ b) (hY : SrtS lt d m b) : SrtS lt r1 j mid := fun x y x1 xy y2 => by
  by_cases hr : j < m ∧ m < en
  · obtain ⟨_, p1, _⟩ := q.1 hr
    rw [p1 x x1 (by omega), p1 y (by omega) (by omega)]
    exact hY _ _ (by omega) (by omega) (by omega)
  · rw [q.2 hr]
    exact hY _ _ (by omega) (by omega) (by omega)
theorem pieceU {lt : α → α → Bool} {d r1 r2 : Array α} {a j m en mid : Nat} (q : (j < m ∧ m < en → ROTS d r1 j m en) ∧ (¬ (j < m ∧ m < en) → r1 = d)) (q2 : (a < j ∧ j < mid → SMS lt r1 r2 a mid) ∧ (¬ (a < j ∧ j < mid) → r2 = r1)) (hse : j + en = mid + m) (h2 : j ≤ m) (h3 : m ≤ en) (h0 : a ≤ j) (hX : SrtS lt d a m) : SrtS lt r2 mid en := by
  have e : ∀ x, mid ≤ x → r2[x]! = r1[x]! := fun x hx => by
    by_cases hl : a < j ∧ j < mid
    · exact (q2.1 hl).1.2 x (.inr hx)
    · rw [q2.2 hl]
  refine SrtS.same (d := r1) (fun x y x1 xy y2 => ?_) (fun x x1 _ => e x x1)
  by_cases hr : j < m ∧ m < en
  · obtain ⟨_, _, p2⟩ := q.1 hr
    rw [p2 x (by omega) (by omega), p2 y (by omega) y2]
    exact hX _ _ (by omega) (by omega) (by omega)
  · rw [q.2 hr]
    exact hX _ _ (by omega) (by omega) (by omega)
theorem pieceV {lt : α → α → Bool} {d r1 r2 : Array α} {a j m en mid b : Nat} (q : (j < m ∧ m < en → ROTS d r1 j m en) ∧ (¬ (j < m ∧ m < en) → r1 = d)) (q2 : (a < j ∧ j < mid → SMS lt r1 r2 a mid) ∧ (¬ (a < j ∧ j < mid) → r2 = r1)) (h3 : m ≤ en) (h4 : mid ≤ en) (hY : SrtS lt d m b) : SrtS lt r2 en b := by
  refine (hY.sub h3 (Nat.le_refl _)).same (fun x x1 x2 => ?_)
  have e : r2[x]! = r1[x]! := by
    by_cases hl : a < j ∧ j < mid
    · exact (q2.1 hl).1.2 x (.inr (by omega))
    · rw [q2.2 hl]
  rw [e]
  by_cases hr : j < m ∧ m < en
  · exact (q.1 hr).1.2 x (.inr x1)
  · rw [q.2 hr]
set_option maxHeartbeats 25600000 in
theorem symMerge_step (L : LS P) (k : Nat) (aE : ∀ w, (isAgg 33).run P w = .ok true w) (zE : ∀ w, (Go.sizeOf 33).run P w = .ok k w) (enc : α → List Value) (g : Nat) (blk off cap : Nat) (d0 : Array α) (w0 : World) (R : RowK enc k w0 blk off d0) (cf : α → α → Int) (eg : ∀ args w, (callFunc g args).run P w = .ok (.enter g args) w) (hcmp : CmpLays P g #[] enc k cf blk off d0.size w0) (hl : LtOk (ltOf cf)) (N : Nat)
    (IH : ∀ (d : Array α) (w : World) (hs : d0.size = d.size) (S : SWK enc k w0 blk off d w) (a m b : Nat) (hN : b - a < N) (h1 : a < m) (h2 : m < b) (hb : b ≤ d.size) (hX : SrtS (ltOf cf) d a m) (hY : SrtS (ltOf cf) d m b),
      Calls P 108 #[.slice (some ⟨blk, off, none⟩) d.size cap, .int .i64 a, .int .i64 m, .int .i64 b, .func (.func g) #[] #[]] w fun e w' => e = .returned (.tuple #[]) ∧ ∃ r : Array α, SMS (ltOf cf) d r a b ∧ SWK enc k w0 blk off r w')
    (d : Array α) (w : World) (hs : d0.size = d.size) (S : SWK enc k w0 blk off d w) (a m b : Nat) (hN : b - a = N) (h1 : a < m) (h2 : m < b) (hb : b ≤ d.size) (hX : SrtS (ltOf cf) d a m) (hY : SrtS (ltOf cf) d m b) (hsz : d.size < 4611686018427387904) :
    Calls P 108 #[.slice (some ⟨blk, off, none⟩) d.size cap, .int .i64 a, .int .i64 m, .int .i64 b, .func (.func g) #[] #[]] w fun e w' => e = .returned (.tuple #[]) ∧ ∃ r : Array α, SMS (ltOf cf) d r a b ∧ SWK enc k w0 blk off r w' := by
  have RT := Lib.hid (fun (dk : Array α) (wr : World) (hd : dk.size = d.size) (S : SWK enc k w0 blk off dk wr) (a m b : Nat) (h1 : a < m) (h2 : m < b) (hb : b ≤ d.size) => by
    have := rotate_any L k aE zE enc g blk off cap d0 w0 R dk wr (hs.trans hd.symm) S a m b h1 h2 (by omega) (by omega)
    rw [hd] at this
    exact this)
  have IH := Lib.hid (fun (dk : Array α) (wr : World) (hd : dk.size = d.size) (S : SWK enc k w0 blk off dk wr) (a m b : Nat) (hN : b - a < N) (h1 : a < m) (h2 : m < b) (hb : b ≤ d.size) (hX : SrtS (ltOf cf) dk a m) (hY : SrtS (ltOf cf) dk m b) => by
    have := IH dk wr (hs.trans hd.symm) S a m b hN h1 h2 (by omega) hX hY
    rw [hd] at this
    exact this)
  have mixed := L.mixed; have t0 := L.t0; have a0 := L.a0; have z0 := L.z0; have v0 := L.v0; have t3 := L.t3; have a3 := L.a3; have z3 := L.z3; have v3 := L.v3; have t4 := L.t4; have a4 := L.a4; have z4 := L.z4; have v4 := L.v4; have t27 := L.t27; have a27 := L.a27; have z27 := L.z27; have v27 := L.v27; have t33 := L.t33; have a33 := L.a33; have z33 := L.z33; have v33 := L.v33; have t97 := L.t97; have a97 := L.a97; have z97 := L.z97; have v97 := L.v97
  have e92 : ∀ args w, (callFunc 123 args).run P w = .ok (.enter 123 args) w := enters_of L.f92 (by kernel_rfl) rfl
  have e89 : ∀ args w, (callFunc 108 args).run P w = .ok (.enter 108 args) w := enters_of L.f89 (by kernel_rfl) rfl
  have HC : Aside _ := hcmp
  have HLT : Aside _ := hl
  have HX : Aside _ := hX
  have HY : Aside _ := hY
  have S0 : Aside (SWK enc k w0 blk off d w) := S
  clear hcmp hl S hX hY
  go_enter L.f89, Tryz.ntmps108
  by_cases hma : m = a + 1
  · have em : (m : Int) - (a : Int) = 1 := by omega
    have HMA := Lib.hid hma
    clear hma
    go_wp2_with fail
    go_loopg [10, 11] (b - m) (fun kx s10 s11 wr => ∃ (i j : Nat), s10 = .int .i64 i ∧ s11 = .int .i64 j ∧ m ≤ i ∧ i ≤ j ∧ j ≤ b ∧ j - i ≤ kx ∧ Aside (SWK enc k w0 blk off d wr) ∧ Hid ((∀ x, m ≤ x → x < i → ltOf cf d[x]! d[a]! = true) ∧ (∀ x, j ≤ x → x < b → ltOf cf d[x]! d[a]! = false)))
    case atStart => exact ⟨m, b, rfl, rfl, Nat.le_refl _, by omega, Nat.le_refl _, Nat.le_refl _, S0, (show _ ∧ _ from ⟨fun x h1 h2 => by omega, fun x h1 h2 => by omega⟩)⟩
    case round =>
      clear S0
      obtain ⟨i, j, rfl, rfl, hmi, hij, hjb, hkx, S1, HI⟩ := hrel
      by_cases hlt : i < j
      · have hltz : (i : Int) < (j : Int) := by omega
        have hhz : ((i : Int) + (j : Int)) / 2 = (((i + j) / 2 : Nat) : Int) := by omega
        obtain ⟨h, hh⟩ : ∃ h, (i + j) / 2 = h := ⟨_, rfl⟩
        rw [hh] at hhz
        have hh1 : i ≤ h ∧ h < j := by omega
        clear hh
        cases hlv : ltOf cf d[h]! d[a]! with
        | true =>
          have eac : ((h : Int)).toNat = h := by omega
          have pac : (0 : Int) ≤ (h : Int) := by omega
          have bac : (h : Int) < (d.size : Int) := by omega
          have rac : IntKind.i64.wrap ((h : Int)) = (h : Int) := by rw [IntKind.wrap_i64]; omega
          have ecc : ((a : Int)).toNat = a := by omega
          have pcc : (0 : Int) ≤ (a : Int) := by omega
          have bcc : (a : Int) < (d.size : Int) := by omega
          have rcc : IntKind.i64.wrap ((a : Int)) = (a : Int) := by rw [IntKind.wrap_i64]; omega
          obtain ⟨xc, hxc⟩ : ∃ x, x = d[h]! := ⟨_, rfl⟩
          obtain ⟨yc, hyc⟩ : ∃ x, x = d[a]! := ⟨_, rfl⟩
          have lac := S1.out.ld R (by omega) P (h) (by omega)
          have lbc := S1.out.ld R (by omega) P (a) (by omega)
          rw [← hxc] at lac
          rw [← hyc] at lbc
          have hcc := S1.out.cmp HC.out (by omega) xc yc
          have hvc : cf xc yc < 0 := by rw [hxc, hyc]; exact of_decide_eq_true (hlv)
          have hdc : decide (cf xc yc < 0) = true := decide_eq_true hvc
          clear hxc hyc
          go_wp2_with fail
          go_quiet_grown (first | (go_at_fn g; refine Calls.grown_of (hcc _ _)))
          have S2 : Aside (SWK enc k w0 blk off d (grow (wr.drewN nq) osq)) := S1.out.grown nq osq
          clear lac lbc hcc S1
          generalize grow (wr.drewN nq) osq = w2 at S2 ⊢
          clear nq osq
          go_wp2
          go_roundg (j - (h + 1))
          case measure => omega
          case rel => exact ⟨h + 1, j, by go_num, rfl, by omega, by omega, hjb, Nat.le_refl _, S2, (show _ ∧ _ from ⟨fun x x1 x2 => up_lt HLT.out (SrtS.le HLT.out HY.out x1 (show x ≤ h by omega) (by omega)) hlv, HI.out.2⟩)⟩
        | false =>
          have eac : ((h : Int)).toNat = h := by omega
          have pac : (0 : Int) ≤ (h : Int) := by omega
          have bac : (h : Int) < (d.size : Int) := by omega
          have rac : IntKind.i64.wrap ((h : Int)) = (h : Int) := by rw [IntKind.wrap_i64]; omega
          have ecc : ((a : Int)).toNat = a := by omega
          have pcc : (0 : Int) ≤ (a : Int) := by omega
          have bcc : (a : Int) < (d.size : Int) := by omega
          have rcc : IntKind.i64.wrap ((a : Int)) = (a : Int) := by rw [IntKind.wrap_i64]; omega
          obtain ⟨xc, hxc⟩ : ∃ x, x = d[h]! := ⟨_, rfl⟩
          obtain ⟨yc, hyc⟩ : ∃ x, x = d[a]! := ⟨_, rfl⟩
          have lac := S1.out.ld R (by omega) P (h) (by omega)
          have lbc := S1.out.ld R (by omega) P (a) (by omega)
          rw [← hxc] at lac
          rw [← hyc] at lbc
          have hcc := S1.out.cmp HC.out (by omega) xc yc
          have hvc : ¬ cf xc yc < 0 := by rw [hxc, hyc]; exact of_decide_eq_false (hlv)
          have hdc : decide (cf xc yc < 0) = false := decide_eq_false hvc
          clear hxc hyc
          go_wp2_with fail
          go_quiet_grown (first | (go_at_fn g; refine Calls.grown_of (hcc _ _)))
          have S2 : Aside (SWK enc k w0 blk off d (grow (wr.drewN nq) osq)) := S1.out.grown nq osq
          clear lac lbc hcc S1
          generalize grow (wr.drewN nq) osq = w2 at S2 ⊢
          clear nq osq
          go_wp2
          go_roundg (h - i)
          case measure => omega
          case rel => exact ⟨i, h, rfl, rfl, hmi, by omega, by omega, Nat.le_refl _, S2, (show _ ∧ _ from ⟨HI.out.1, fun x x1 x2 => HLT.out.nt _ _ _ (SrtS.le HLT.out HY.out (show m ≤ h by omega) x1 x2) hlv⟩)⟩
      · have hltz : ¬ (i : Int) < (j : Int) := by omega
        have e : j = i := by omega
        subst e
        go_wp2_with fail
        go_loopg [13] (j - 1 - a) (fun kx s13 wr2 => ∃ (q : Nat) (dk : Array α), s13 = .int .i64 q ∧ a ≤ q ∧ q ≤ j - 1 ∧ j - 1 - q ≤ kx ∧ dk.size = d.size ∧ Aside (SWK enc k w0 blk off dk wr2) ∧ Hid (MVR (ltOf cf) d dk a b q))
        case atStart => exact ⟨a, d, rfl, Nat.le_refl _, by omega, Nat.le_refl _, rfl, S1, MVR.start d a b⟩
        case round =>
          clear S1
          obtain ⟨q, dk, rfl, haq, hqi, hkx2, hsk, S1, HM⟩ := hrel
          by_cases hq : q < j - 1
          · have hqz : (q : Int) < (j : Int) - 1 := by omega
            go_wp2_with fail
            have eas : ((q : Int)).toNat = q := by omega
            have pas : (0 : Int) ≤ (q : Int) := by omega
            have bas : (q : Int) < (d.size : Int) := by omega
            have ras : IntKind.i64.wrap ((q : Int)) = (q : Int) := by rw [IntKind.wrap_i64]; omega
            have ecs : ((q : Int) + 1).toNat = q + 1 := by omega
            have pcs : (0 : Int) ≤ (q : Int) + 1 := by omega
            have bcs : (q : Int) + 1 < (d.size : Int) := by omega
            have rcs : IntKind.i64.wrap ((q : Int) + 1) = (q : Int) + 1 := by rw [IntKind.wrap_i64]; omega
            have S3 : Aside (SWK enc k w0 blk off (swp dk (q) (q + 1)) ((wr.drew.setCells blk (off + (q) * k) (enc dk[q + 1]!)).setCells blk (off + (q + 1) * k) (enc dk[q]!))) := S1.out.swapped R (q) (q + 1) (by omega) (by omega)
            have las := S1.out.ld1 R (by omega) P (q) (by omega)
            have lbs := S1.out.ld1 R (by omega) P (q + 1) (by omega)
            have sas := S1.out.st1 R (by omega) P (q) (by omega) dk[q + 1]!
            have sbs := S1.out.st2 R (by omega) P (q) (q + 1) (by omega) (by omega) dk[q + 1]! dk[q]!
            have nas : (enc dk[q]!).length = k := R.hk _
            have nbs : (enc dk[q + 1]!).length = k := R.hk _
            generalize enc dk[q]! = cIs at S3 las sbs nas
            generalize enc dk[q + 1]! = cJs at S3 lbs sas sbs nbs
            clear S1
            go_wp2_with fail
            go_big_region_o
            clear las lbs sas sbs
            generalize (wr.drew.setCells blk (off + (q) * k) cJs).setCells blk (off + (q + 1) * k) cIs = w3 at S3 ⊢
            go_wp2
            go_roundg (j - 1 - (q + 1))
            case measure => omega
            case rel => exact ⟨q + 1, swp dk q (q + 1), by go_num, by omega, by omega, Nat.le_refl _, by rw [size_swp]; exact hsk, S3, (show MVR (ltOf cf) d _ a b (q + 1) from HM.out.next HLT.out (nsw_swp dk (by omega)) haq (by omega) (HI.out.1 (q + 1) (by omega) (by omega)))⟩
          · have hqz : ¬ (q : Int) < (j : Int) - 1 := by omega
            have e2 : q = j - 1 := by omega
            subst e2
            go_wp2
            go_returns
            exact ⟨rfl, dk, HM.out.fin HLT.out HMA.out (by omega) hjb HY.out HI.out.1 HI.out.2, S1.out⟩
  · by_cases hmb : b = m + 1
    · have em : ((m : Int) - (a : Int) == 1) = false := by simp; omega
      have em2 : (b : Int) - (m : Int) = 1 := by omega
      have HMB := Lib.hid hmb
      clear hmb
      go_wp2_with fail
      go_loopg [14, 15] (m - a) (fun kx s14 s15 wr => ∃ (i j : Nat), s14 = .int .i64 i ∧ s15 = .int .i64 j ∧ a ≤ i ∧ i ≤ j ∧ j ≤ m ∧ j - i ≤ kx ∧ Aside (SWK enc k w0 blk off d wr) ∧ Hid ((∀ x, a ≤ x → x < i → ltOf cf d[m]! d[x]! = false) ∧ (∀ x, j ≤ x → x < m → ltOf cf d[m]! d[x]! = true)))
      case atStart => exact ⟨a, m, rfl, rfl, Nat.le_refl _, by omega, Nat.le_refl _, Nat.le_refl _, S0, (show _ ∧ _ from ⟨fun x h1 h2 => by omega, fun x h1 h2 => by omega⟩)⟩
      case round =>
        clear S0
        obtain ⟨i, j, rfl, rfl, hmi, hij, hjb, hkx, S1, HI⟩ := hrel
        by_cases hlt : i < j
        · have hltz : (i : Int) < (j : Int) := by omega
          have hhz : ((i : Int) + (j : Int)) / 2 = (((i + j) / 2 : Nat) : Int) := by omega
          obtain ⟨h, hh⟩ : ∃ h, (i + j) / 2 = h := ⟨_, rfl⟩
          rw [hh] at hhz
          have hh1 : i ≤ h ∧ h < j := by omega
          clear hh
          cases hlv : ltOf cf d[m]! d[h]! with
          | true =>
            have eac : ((m : Int)).toNat = m := by omega
            have pac : (0 : Int) ≤ (m : Int) := by omega
            have bac : (m : Int) < (d.size : Int) := by omega
            have rac : IntKind.i64.wrap ((m : Int)) = (m : Int) := by rw [IntKind.wrap_i64]; omega
            have ecc : ((h : Int)).toNat = h := by omega
            have pcc : (0 : Int) ≤ (h : Int) := by omega
            have bcc : (h : Int) < (d.size : Int) := by omega
            have rcc : IntKind.i64.wrap ((h : Int)) = (h : Int) := by rw [IntKind.wrap_i64]; omega
            obtain ⟨xc, hxc⟩ : ∃ x, x = d[m]! := ⟨_, rfl⟩
            obtain ⟨yc, hyc⟩ : ∃ x, x = d[h]! := ⟨_, rfl⟩
            have lac := S1.out.ld R (by omega) P (m) (by omega)
            have lbc := S1.out.ld R (by omega) P (h) (by omega)
            rw [← hxc] at lac
            rw [← hyc] at lbc
            have hcc := S1.out.cmp HC.out (by omega) xc yc
            have hvc : cf xc yc < 0 := by rw [hxc, hyc]; exact of_decide_eq_true (hlv)
            have hdc : decide (cf xc yc < 0) = true := decide_eq_true hvc
            clear hxc hyc
            go_wp2_with fail
            go_quiet_grown (first | (go_at_fn g; refine Calls.grown_of (hcc _ _)))
            have S2 : Aside (SWK enc k w0 blk off d (grow (wr.drewN nq) osq)) := S1.out.grown nq osq
            clear lac lbc hcc S1
            generalize grow (wr.drewN nq) osq = w2 at S2 ⊢
            clear nq osq
            go_wp2
            go_roundg (h - i)
            case measure => omega
            case rel => exact ⟨i, h, rfl, rfl, hmi, by omega, by omega, Nat.le_refl _, S2, (show _ ∧ _ from ⟨HI.out.1, fun x x1 x2 => up_lt' HLT.out hlv (SrtS.le HLT.out HX.out (show a ≤ h by omega) x1 x2)⟩)⟩
          | false =>
            have eac : ((m : Int)).toNat = m := by omega
            have pac : (0 : Int) ≤ (m : Int) := by omega
            have bac : (m : Int) < (d.size : Int) := by omega
            have rac : IntKind.i64.wrap ((m : Int)) = (m : Int) := by rw [IntKind.wrap_i64]; omega
            have ecc : ((h : Int)).toNat = h := by omega
            have pcc : (0 : Int) ≤ (h : Int) := by omega
            have bcc : (h : Int) < (d.size : Int) := by omega
            have rcc : IntKind.i64.wrap ((h : Int)) = (h : Int) := by rw [IntKind.wrap_i64]; omega
            obtain ⟨xc, hxc⟩ : ∃ x, x = d[m]! := ⟨_, rfl⟩
            obtain ⟨yc, hyc⟩ : ∃ x, x = d[h]! := ⟨_, rfl⟩
            have lac := S1.out.ld R (by omega) P (m) (by omega)
            have lbc := S1.out.ld R (by omega) P (h) (by omega)
            rw [← hxc] at lac
            rw [← hyc] at lbc
            have hcc := S1.out.cmp HC.out (by omega) xc yc
            have hvc : ¬ cf xc yc < 0 := by rw [hxc, hyc]; exact of_decide_eq_false (hlv)
            have hdc : decide (cf xc yc < 0) = false := decide_eq_false hvc
            clear hxc hyc
            go_wp2_with fail
            go_quiet_grown (first | (go_at_fn g; refine Calls.grown_of (hcc _ _)))
            have S2 : Aside (SWK enc k w0 blk off d (grow (wr.drewN nq) osq)) := S1.out.grown nq osq
            clear lac lbc hcc S1
            generalize grow (wr.drewN nq) osq = w2 at S2 ⊢
            clear nq osq
            go_wp2
            go_roundg (j - (h + 1))
            case measure => omega
            case rel => exact ⟨h + 1, j, by go_num, rfl, by omega, by omega, hjb, Nat.le_refl _, S2, (show _ ∧ _ from ⟨fun x x1 x2 => HLT.out.nt _ _ _ hlv (SrtS.le HLT.out HX.out x1 (show x ≤ h by omega) (by omega)), HI.out.2⟩)⟩
        · have hltz : ¬ (i : Int) < (j : Int) := by omega
          have e : j = i := by omega
          subst e
          go_wp2_with fail
          go_loopg [17] (m - j) (fun kx s17 wr2 => ∃ (q : Nat) (dk : Array α), s17 = .int .i64 q ∧ j ≤ q ∧ q ≤ m ∧ q - j ≤ kx ∧ dk.size = d.size ∧ Aside (SWK enc k w0 blk off dk wr2) ∧ Hid (MVL (ltOf cf) d dk a m q))
          case atStart => exact ⟨m, d, rfl, by omega, Nat.le_refl _, Nat.le_refl _, rfl, S1, MVL.start d a m⟩
          case round =>
            clear S1
            obtain ⟨q, dk, rfl, haq, hqi, hkx2, hsk, S1, HM⟩ := hrel
            by_cases hq : j < q
            · obtain ⟨qp, rfl⟩ : ∃ qp, q = qp + 1 := ⟨q - 1, by omega⟩
              have hqz : (j : Int) < (qp : Int) + 1 := by omega
              go_wp2_with fail
              have eas : ((qp : Int) + 1).toNat = qp + 1 := by omega
              have pas : (0 : Int) ≤ (qp : Int) + 1 := by omega
              have bas : (qp : Int) + 1 < (d.size : Int) := by omega
              have ras : IntKind.i64.wrap ((qp : Int) + 1) = (qp : Int) + 1 := by rw [IntKind.wrap_i64]; omega
              have ecs : ((qp : Int)).toNat = qp := by omega
              have pcs : (0 : Int) ≤ (qp : Int) := by omega
              have bcs : (qp : Int) < (d.size : Int) := by omega
              have rcs : IntKind.i64.wrap ((qp : Int)) = (qp : Int) := by rw [IntKind.wrap_i64]; omega
              have S3 : Aside (SWK enc k w0 blk off (swp dk (qp + 1) (qp)) ((wr.drew.setCells blk (off + (qp + 1) * k) (enc dk[qp]!)).setCells blk (off + (qp) * k) (enc dk[qp + 1]!))) := S1.out.swapped R (qp + 1) (qp) (by omega) (by omega)
              have las := S1.out.ld1 R (by omega) P (qp + 1) (by omega)
              have lbs := S1.out.ld1 R (by omega) P (qp) (by omega)
              have sas := S1.out.st1 R (by omega) P (qp + 1) (by omega) dk[qp]!
              have sbs := S1.out.st2 R (by omega) P (qp + 1) (qp) (by omega) (by omega) dk[qp]! dk[qp + 1]!
              have nas : (enc dk[qp + 1]!).length = k := R.hk _
              have nbs : (enc dk[qp]!).length = k := R.hk _
              generalize enc dk[qp + 1]! = cIs at S3 las sbs nas
              generalize enc dk[qp]! = cJs at S3 lbs sas sbs nbs
              clear S1
              go_wp2_with fail
              go_big_region_o
              clear las lbs sas sbs
              generalize (wr.drew.setCells blk (off + (qp + 1) * k) cJs).setCells blk (off + (qp) * k) cIs = w3 at S3 ⊢
              go_wp2
              go_roundg (qp - j)
              case measure => omega
              case rel => exact ⟨qp, swp dk (qp + 1) qp, by first | rfl | go_num | (congr 1; omega), by omega, by omega, Nat.le_refl _, by rw [size_swp]; exact hsk, S3, (show MVL (ltOf cf) d _ a m qp from HM.out.next HLT.out (nsw_swp' dk (by omega)) (by omega) (by omega) (HI.out.2 qp (by omega) (by omega)))⟩
            · have hqz : ¬ (j : Int) < (q : Int) := by omega
              have e2 : q = j := by omega
              subst e2
              go_wp2
              go_returns
              exact ⟨rfl, dk, by rw [HMB.out]; exact HM.out.fin HLT.out hmi (by omega) HX.out HI.out.1 HI.out.2, S1.out⟩
    · have em : ((m : Int) - (a : Int) == 1) = false := by simp; omega
      have em2 : ((b : Int) - (m : Int) == 1) = false := by simp; omega
      have hmz : ((a : Int) + (b : Int)) / 2 = (((a + b) / 2 : Nat) : Int) := by omega
      obtain ⟨mid, hmid⟩ : ∃ mid, (a + b) / 2 = mid := ⟨_, rfl⟩
      rw [hmid] at hmz
      have hnz : (mid : Int) + (m : Int) = ((mid + m : Nat) : Int) := by omega
      obtain ⟨nn, hnn⟩ : ∃ nn, mid + m = nn := ⟨_, rfl⟩
      rw [hnn] at hnz
      have hpz : (nn : Int) - 1 = ((nn - 1 : Nat) : Int) := by omega
      obtain ⟨pp, hpp⟩ : ∃ pp, nn - 1 = pp := ⟨_, rfl⟩
      rw [hpp] at hpz
      have hA : a < m ∧ m < b := ⟨h1, h2⟩
      by_cases hmm : mid < m
      · have hmm2 : (mid : Int) < (m : Int) := by omega
        have hsz0 : (nn : Int) - (b : Int) = ((nn - b : Nat) : Int) := by omega
        obtain ⟨s0, hs0⟩ : ∃ s0, nn - b = s0 := ⟨_, rfl⟩
        rw [hs0] at hsz0
        have HF : a ≤ s0 ∧ s0 ≤ mid ∧ mid ≤ m ∧ nn ≤ s0 + b ∧ (s0 = a ∨ s0 + b = nn) := by omega
        clear hs0
        go_upto_region 88 with (fail)
        clear hsz0 hmm2
        go_wp2_with fail
        go_loopg [20, 21] (mid - s0) (fun kx s20 s21 wr => ∃ (st r : Nat), s20 = .int .i64 st ∧ s21 = .int .i64 r ∧ s0 ≤ st ∧ st ≤ r ∧ r ≤ mid ∧ r - st ≤ kx ∧ Aside (SWK enc k w0 blk off d wr) ∧ Hid ((∀ c, s0 ≤ c → c < st → ltOf cf d[pp - c]! d[c]! = false) ∧ (∀ c, r ≤ c → c < mid → ltOf cf d[pp - c]! d[c]! = true)))
        case atStart => exact ⟨s0, mid, rfl, rfl, Nat.le_refl _, by omega, Nat.le_refl _, Nat.le_refl _, S0, (show _ ∧ _ from ⟨fun x h1 h2 => by omega, fun x h1 h2 => by omega⟩)⟩
        case round =>
          clear S0
          obtain ⟨i, j, rfl, rfl, hmi, hij, hjb, hkx, S1, HI⟩ := hrel
          by_cases hlt : i < j
          · have hltz : (i : Int) < (j : Int) := by omega
            have hhz : ((i : Int) + (j : Int)) / 2 = (((i + j) / 2 : Nat) : Int) := by omega
            obtain ⟨h, hh⟩ : ∃ h, (i + j) / 2 = h := ⟨_, rfl⟩
            rw [hh] at hhz
            have hh1 : i ≤ h ∧ h < j := by omega
            clear hh
            have epc : (pp : Int) - (h : Int) = ((pp - h : Nat) : Int) := by omega
            obtain ⟨u, hu⟩ : ∃ u, pp - h = u := ⟨_, rfl⟩
            rw [hu] at epc
            have HU := Lib.hid hu
            have hub : m ≤ u ∧ u < b := by omega
            clear hu
            cases hlv : ltOf cf d[u]! d[h]! with
            | true =>
              have eac : ((u : Int)).toNat = u := by omega
              have pac : (0 : Int) ≤ (u : Int) := by omega
              have bac : (u : Int) < (d.size : Int) := by omega
              have rac : IntKind.i64.wrap ((u : Int)) = (u : Int) := by rw [IntKind.wrap_i64]; omega
              have ecc : ((h : Int)).toNat = h := by omega
              have pcc : (0 : Int) ≤ (h : Int) := by omega
              have bcc : (h : Int) < (d.size : Int) := by omega
              have rcc : IntKind.i64.wrap ((h : Int)) = (h : Int) := by rw [IntKind.wrap_i64]; omega
              obtain ⟨xc, hxc⟩ : ∃ x, x = d[u]! := ⟨_, rfl⟩
              obtain ⟨yc, hyc⟩ : ∃ x, x = d[h]! := ⟨_, rfl⟩
              have lac := S1.out.ld R (by omega) P (u) (by omega)
              have lbc := S1.out.ld R (by omega) P (h) (by omega)
              rw [← hxc] at lac
              rw [← hyc] at lbc
              have hcc := S1.out.cmp HC.out (by omega) xc yc
              have hvc : cf xc yc < 0 := by rw [hxc, hyc]; exact of_decide_eq_true (hlv)
              have hdc : decide (cf xc yc < 0) = true := decide_eq_true hvc
              clear hxc hyc
              go_wp2_with fail
              go_quiet_grown (first | (go_at_fn g; refine Calls.grown_of (hcc _ _)))
              have S2 : Aside (SWK enc k w0 blk off d (grow (wr.drewN nq) osq)) := S1.out.grown nq osq
              clear lac lbc hcc S1
              generalize grow (wr.drewN nq) osq = w2 at S2 ⊢
              clear nq osq
              go_wp2
              go_roundg (h - i)
              case measure => omega
              case rel => exact ⟨i, h, rfl, rfl, hmi, by omega, by omega, Nat.le_refl _, S2, (show _ ∧ _ from ⟨HI.out.1, fun c c1 c2 => by
                have hue := HU.out
                exact up_lt' HLT.out (up_lt HLT.out (SrtS.le HLT.out HY.out (show m ≤ pp - c by omega) (show pp - c ≤ u by omega) hub.2) hlv) (SrtS.le HLT.out HX.out (show a ≤ h by omega) c1 (by omega))⟩)⟩
            | false =>
              have eac : ((u : Int)).toNat = u := by omega
              have pac : (0 : Int) ≤ (u : Int) := by omega
              have bac : (u : Int) < (d.size : Int) := by omega
              have rac : IntKind.i64.wrap ((u : Int)) = (u : Int) := by rw [IntKind.wrap_i64]; omega
              have ecc : ((h : Int)).toNat = h := by omega
              have pcc : (0 : Int) ≤ (h : Int) := by omega
              have bcc : (h : Int) < (d.size : Int) := by omega
              have rcc : IntKind.i64.wrap ((h : Int)) = (h : Int) := by rw [IntKind.wrap_i64]; omega
              obtain ⟨xc, hxc⟩ : ∃ x, x = d[u]! := ⟨_, rfl⟩
              obtain ⟨yc, hyc⟩ : ∃ x, x = d[h]! := ⟨_, rfl⟩
              have lac := S1.out.ld R (by omega) P (u) (by omega)
              have lbc := S1.out.ld R (by omega) P (h) (by omega)
              rw [← hxc] at lac
              rw [← hyc] at lbc
              have hcc := S1.out.cmp HC.out (by omega) xc yc
              have hvc : ¬ cf xc yc < 0 := by rw [hxc, hyc]; exact of_decide_eq_false (hlv)
              have hdc : decide (cf xc yc < 0) = false := decide_eq_false hvc
              clear hxc hyc
              go_wp2_with fail
              go_quiet_grown (first | (go_at_fn g; refine Calls.grown_of (hcc _ _)))
              have S2 : Aside (SWK enc k w0 blk off d (grow (wr.drewN nq) osq)) := S1.out.grown nq osq
              clear lac lbc hcc S1
              generalize grow (wr.drewN nq) osq = w2 at S2 ⊢
              clear nq osq
              go_wp2
              go_roundg (j - (h + 1))
              case measure => omega
              case rel => exact ⟨h + 1, j, by go_num, rfl, by omega, by omega, hjb, Nat.le_refl _, S2, (show _ ∧ _ from ⟨fun c c1 c2 => by
                have hue := HU.out
                exact HLT.out.nt _ _ _ (HLT.out.nt _ _ _ (SrtS.le HLT.out HY.out hub.1 (show u ≤ pp - c by omega) (by omega)) hlv) (SrtS.le HLT.out HX.out (show a ≤ c by omega) (show c ≤ h by omega) (by omega)), HI.out.2⟩)⟩
          · have hltz : ¬ (i : Int) < (j : Int) := by omega
            have e : j = i := by omega
            subst e
            obtain ⟨en, hen⟩ : ∃ en, nn - j = en := ⟨_, rfl⟩
            have ene : (nn : Int) - (j : Int) = (en : Int) := by omega
            have hse : j + en = mid + m := by omega
            have hb1 : a ≤ j ∧ j ≤ m ∧ m ≤ en ∧ en ≤ b ∧ j ≤ mid ∧ mid ≤ en := by omega
            have f1 : a < j → en < b → ltOf cf d[en]! d[j - 1]! = false := fun q1 q2 => by
              have := HI.out.1 (j - 1) (by omega) (by omega)
              rw [show pp - (j - 1) = en by omega] at this
              exact this
            have f2 : j < m → m < en → ltOf cf d[en - 1]! d[j]! = true := fun q1 q2 => by
              have := HI.out.2 j (Nat.le_refl _) (by omega)
              rw [show pp - j = en - 1 by omega] at this
              exact this
            have MS := Lib.hid (fun (r1 r2 r3 : Array α) => merge_step (r1 := r1) (r2 := r2) (r3 := r3) HLT.out hA.1 hA.2 HX.out HY.out hse hb1.1 hb1.2.1 hb1.2.2.1 hb1.2.2.2.1 hb1.2.2.2.2.1 hb1.2.2.2.2.2 f1 f2)
            clear hen f1 f2 HI
            -- the pieces are sorted where they go
            have PL : ∀ r1 : Array α, ((j < m ∧ m < en → ROTS d r1 j m en) ∧ (¬ (j < m ∧ m < en) → r1 = d)) → SrtS (ltOf cf) r1 a j := fun r1 q => pieceL q hb1.2.1 HX.out
            have PM : ∀ r1 : Array α, ((j < m ∧ m < en → ROTS d r1 j m en) ∧ (¬ (j < m ∧ m < en) → r1 = d)) → SrtS (ltOf cf) r1 j mid := fun r1 q => pieceM q hse hb1.2.1 hb1.2.2.1 hb1.2.2.2.1 HY.out
            have PU : ∀ r1 r2 : Array α, ((j < m ∧ m < en → ROTS d r1 j m en) ∧ (¬ (j < m ∧ m < en) → r1 = d)) → ((a < j ∧ j < mid → SMS (ltOf cf) r1 r2 a mid) ∧ (¬ (a < j ∧ j < mid) → r2 = r1)) → SrtS (ltOf cf) r2 mid en := fun r1 r2 q q2 => pieceU q q2 hse hb1.2.1 hb1.2.2.1 hb1.1 HX.out
            have PV : ∀ r1 r2 : Array α, ((j < m ∧ m < en → ROTS d r1 j m en) ∧ (¬ (j < m ∧ m < en) → r1 = d)) → ((a < j ∧ j < mid → SMS (ltOf cf) r1 r2 a mid) ∧ (¬ (a < j ∧ j < mid) → r2 = r1)) → SrtS (ltOf cf) r2 en b := fun r1 r2 q q2 => pieceV q q2 hb1.2.2.1 hb1.2.2.2.2.2 HY.out
            by_cases hrot : j < m ∧ m < en
            · have hq1 : (j : Int) < (m : Int) := by omega
              have hq2 : (m : Int) < (en : Int) := by omega
              have hx := RT.out d wr rfl S1.out j m en hrot.1 hrot.2 (by omega)
              have HX1 := Lib.hid hx
              clear hx S1
              go_wp2_with fail
              refine HX1.out.mono ?_
              rintro e w1 ⟨rfl, r1, hr1, hS1⟩
              have H1 := Lib.hid (show (j < m ∧ m < en → ROTS d r1 j m en) ∧ (¬ (j < m ∧ m < en) → r1 = d) from ⟨fun _ => hr1, fun q => absurd hrot q⟩)
              have T1 : Aside (SWK enc k w0 blk off r1 w1) := hS1
              have z1 : r1.size = d.size := hr1.1.1
              clear hr1 hS1 HX1
              by_cases hlo : a < j ∧ j < mid
              · first
                | (exfalso; omega)
                | (have hq3 : (a : Int) < (j : Int) := by omega
                   have hq4 : (j : Int) < (mid : Int) := by omega
                   have hx := IH.out r1 w1 (z1) T1.out a j mid (by omega) hlo.1 hlo.2 (by omega) (PL r1 H1.out) (PM r1 H1.out)
                   have HX2 := Lib.hid hx
                   clear hx T1
                   go_wp2_with fail
                   refine HX2.out.mono ?_
                   rintro e w2 ⟨rfl, r2, hr2, hS2⟩
                   have H2 := Lib.hid (show (a < j ∧ j < mid → SMS (ltOf cf) r1 r2 a mid) ∧ (¬ (a < j ∧ j < mid) → r2 = r1) from ⟨fun _ => hr2, fun q => absurd hlo q⟩)
                   have T2 : Aside (SWK enc k w0 blk off r2 w2) := hS2
                   have z2 : r2.size = d.size := hr2.1.1.trans (z1)
                   clear hr2 hS2 HX2
                   by_cases hup : mid < en ∧ en < b
                   · first
                     | (exfalso; omega)
                     | (have hq5 : (mid : Int) < (en : Int) := by omega
                        have hq6 : (en : Int) < (b : Int) := by omega
                        have hx := IH.out r2 w2 (z2) T2.out mid en b (by omega) hup.1 hup.2 (by omega) (PU r1 r2 H1.out H2.out) (PV r1 r2 H1.out H2.out)
                        have HX3 := Lib.hid hx
                        clear hx T2
                        go_wp2_with fail
                        refine HX3.out.mono ?_
                        rintro e w3 ⟨rfl, r3, hr3, hS3⟩
                        go_wp2
                        go_end0
                        exact ⟨rfl, r3, MS.out r1 r2 r3 H1.out H2.out ⟨fun _ => hr3, fun q => absurd hup q⟩, hS3⟩)
                   · go_wp2
                     all_goals first | (exfalso; omega) | (go_end0; exact ⟨rfl, r2, MS.out r1 r2 r2 H1.out H2.out ⟨fun q => absurd q hup, fun _ => rfl⟩, T2.out⟩))
              · have T2 : Aside (SWK enc k w0 blk off r1 w1) := T1
                clear T1
                by_cases hup : mid < en ∧ en < b
                · first
                  | (exfalso; omega)
                  | (have hq5 : (mid : Int) < (en : Int) := by omega
                     have hq6 : (en : Int) < (b : Int) := by omega
                     have hx := IH.out r1 w1 (z1) T2.out mid en b (by omega) hup.1 hup.2 (by omega) (PU r1 r1 H1.out ⟨fun q => absurd q hlo, fun _ => rfl⟩) (PV r1 r1 H1.out ⟨fun q => absurd q hlo, fun _ => rfl⟩)
                     have HX3 := Lib.hid hx
                     clear hx T2
                     go_wp2_with fail
                     refine HX3.out.mono ?_
                     rintro e w3 ⟨rfl, r3, hr3, hS3⟩
                     go_wp2
                     go_end0
                     exact ⟨rfl, r3, MS.out r1 r1 r3 H1.out ⟨fun q => absurd q hlo, fun _ => rfl⟩ ⟨fun _ => hr3, fun q => absurd hup q⟩, hS3⟩)
                · go_wp2
                  all_goals first | (exfalso; omega) | (go_end0; exact ⟨rfl, r1, MS.out r1 r1 r1 H1.out ⟨fun q => absurd q hlo, fun _ => rfl⟩ ⟨fun q => absurd q hup, fun _ => rfl⟩, T2.out⟩)
            · have T1 : Aside (SWK enc k w0 blk off d wr) := S1
              clear S1
              by_cases hlo : a < j ∧ j < mid
              · first
                | (exfalso; omega)
                | (have hq3 : (a : Int) < (j : Int) := by omega
                   have hq4 : (j : Int) < (mid : Int) := by omega
                   have hx := IH.out d wr (rfl) T1.out a j mid (by omega) hlo.1 hlo.2 (by omega) (PL d ⟨fun q => absurd q hrot, fun _ => rfl⟩) (PM d ⟨fun q => absurd q hrot, fun _ => rfl⟩)
                   have HX2 := Lib.hid hx
                   clear hx T1
                   go_wp2_with fail
                   refine HX2.out.mono ?_
                   rintro e w2 ⟨rfl, r2, hr2, hS2⟩
                   have H2 := Lib.hid (show (a < j ∧ j < mid → SMS (ltOf cf) d r2 a mid) ∧ (¬ (a < j ∧ j < mid) → r2 = d) from ⟨fun _ => hr2, fun q => absurd hlo q⟩)
                   have T2 : Aside (SWK enc k w0 blk off r2 w2) := hS2
                   have z2 : r2.size = d.size := hr2.1.1.trans (rfl)
                   clear hr2 hS2 HX2
                   by_cases hup : mid < en ∧ en < b
                   · first
                     | (exfalso; omega)
                     | (have hq5 : (mid : Int) < (en : Int) := by omega
                        have hq6 : (en : Int) < (b : Int) := by omega
                        have hx := IH.out r2 w2 (z2) T2.out mid en b (by omega) hup.1 hup.2 (by omega) (PU d r2 ⟨fun q => absurd q hrot, fun _ => rfl⟩ H2.out) (PV d r2 ⟨fun q => absurd q hrot, fun _ => rfl⟩ H2.out)
                        have HX3 := Lib.hid hx
                        clear hx T2
                        go_wp2_with fail
                        refine HX3.out.mono ?_
                        rintro e w3 ⟨rfl, r3, hr3, hS3⟩
                        go_wp2
                        go_end0
                        exact ⟨rfl, r3, MS.out d r2 r3 ⟨fun q => absurd q hrot, fun _ => rfl⟩ H2.out ⟨fun _ => hr3, fun q => absurd hup q⟩, hS3⟩)
                   · go_wp2
                     all_goals first | (exfalso; omega) | (go_end0; exact ⟨rfl, r2, MS.out d r2 r2 ⟨fun q => absurd q hrot, fun _ => rfl⟩ H2.out ⟨fun q => absurd q hup, fun _ => rfl⟩, T2.out⟩))
              · have T2 : Aside (SWK enc k w0 blk off d wr) := T1
                clear T1
                by_cases hup : mid < en ∧ en < b
                · first
                  | (exfalso; omega)
                  | (have hq5 : (mid : Int) < (en : Int) := by omega
                     have hq6 : (en : Int) < (b : Int) := by omega
                     have hx := IH.out d wr (rfl) T2.out mid en b (by omega) hup.1 hup.2 (by omega) (PU d d ⟨fun q => absurd q hrot, fun _ => rfl⟩ ⟨fun q => absurd q hlo, fun _ => rfl⟩) (PV d d ⟨fun q => absurd q hrot, fun _ => rfl⟩ ⟨fun q => absurd q hlo, fun _ => rfl⟩)
                     have HX3 := Lib.hid hx
                     clear hx T2
                     go_wp2_with fail
                     refine HX3.out.mono ?_
                     rintro e w3 ⟨rfl, r3, hr3, hS3⟩
                     go_wp2
                     go_end0
                     exact ⟨rfl, r3, MS.out d d r3 ⟨fun q => absurd q hrot, fun _ => rfl⟩ ⟨fun q => absurd q hlo, fun _ => rfl⟩ ⟨fun _ => hr3, fun q => absurd hup q⟩, hS3⟩)
                · go_wp2
                  all_goals first | (exfalso; omega) | (go_end0; exact ⟨rfl, d, MS.out d d d ⟨fun q => absurd q hrot, fun _ => rfl⟩ ⟨fun q => absurd q hlo, fun _ => rfl⟩ ⟨fun q => absurd q hup, fun _ => rfl⟩, T2.out⟩)
      · have hmm2 : ¬ (mid : Int) < (m : Int) := by omega
        have HF : m ≤ mid ∧ nn ≤ a + b := by omega
        go_upto_region 88 with (fail)
        clear hmm2
        go_wp2_with fail
        go_loopg [20, 21] (m - a) (fun kx s20 s21 wr => ∃ (st r : Nat), s20 = .int .i64 st ∧ s21 = .int .i64 r ∧ a ≤ st ∧ st ≤ r ∧ r ≤ m ∧ r - st ≤ kx ∧ Aside (SWK enc k w0 blk off d wr) ∧ Hid ((∀ c, a ≤ c → c < st → ltOf cf d[pp - c]! d[c]! = false) ∧ (∀ c, r ≤ c → c < m → ltOf cf d[pp - c]! d[c]! = true)))
        case atStart => exact ⟨a, m, rfl, rfl, Nat.le_refl _, by omega, Nat.le_refl _, Nat.le_refl _, S0, (show _ ∧ _ from ⟨fun x h1 h2 => by omega, fun x h1 h2 => by omega⟩)⟩
        case round =>
          clear S0
          obtain ⟨i, j, rfl, rfl, hmi, hij, hjb, hkx, S1, HI⟩ := hrel
          by_cases hlt : i < j
          · have hltz : (i : Int) < (j : Int) := by omega
            have hhz : ((i : Int) + (j : Int)) / 2 = (((i + j) / 2 : Nat) : Int) := by omega
            obtain ⟨h, hh⟩ : ∃ h, (i + j) / 2 = h := ⟨_, rfl⟩
            rw [hh] at hhz
            have hh1 : i ≤ h ∧ h < j := by omega
            clear hh
            have epc : (pp : Int) - (h : Int) = ((pp - h : Nat) : Int) := by omega
            obtain ⟨u, hu⟩ : ∃ u, pp - h = u := ⟨_, rfl⟩
            rw [hu] at epc
            have HU := Lib.hid hu
            have hub : m ≤ u ∧ u < b := by omega
            clear hu
            cases hlv : ltOf cf d[u]! d[h]! with
            | true =>
              have eac : ((u : Int)).toNat = u := by omega
              have pac : (0 : Int) ≤ (u : Int) := by omega
              have bac : (u : Int) < (d.size : Int) := by omega
              have rac : IntKind.i64.wrap ((u : Int)) = (u : Int) := by rw [IntKind.wrap_i64]; omega
              have ecc : ((h : Int)).toNat = h := by omega
              have pcc : (0 : Int) ≤ (h : Int) := by omega
              have bcc : (h : Int) < (d.size : Int) := by omega
              have rcc : IntKind.i64.wrap ((h : Int)) = (h : Int) := by rw [IntKind.wrap_i64]; omega
              obtain ⟨xc, hxc⟩ : ∃ x, x = d[u]! := ⟨_, rfl⟩
              obtain ⟨yc, hyc⟩ : ∃ x, x = d[h]! := ⟨_, rfl⟩
              have lac := S1.out.ld R (by omega) P (u) (by omega)
              have lbc := S1.out.ld R (by omega) P (h) (by omega)
              rw [← hxc] at lac
              rw [← hyc] at lbc
              have hcc := S1.out.cmp HC.out (by omega) xc yc
              have hvc : cf xc yc < 0 := by rw [hxc, hyc]; exact of_decide_eq_true (hlv)
              have hdc : decide (cf xc yc < 0) = true := decide_eq_true hvc
              clear hxc hyc
              go_wp2_with fail
              go_quiet_grown (first | (go_at_fn g; refine Calls.grown_of (hcc _ _)))
              have S2 : Aside (SWK enc k w0 blk off d (grow (wr.drewN nq) osq)) := S1.out.grown nq osq
              clear lac lbc hcc S1
              generalize grow (wr.drewN nq) osq = w2 at S2 ⊢
              clear nq osq
              go_wp2
              go_roundg (h - i)
              case measure => omega
              case rel => exact ⟨i, h, rfl, rfl, hmi, by omega, by omega, Nat.le_refl _, S2, (show _ ∧ _ from ⟨HI.out.1, fun c c1 c2 => by
                have hue := HU.out
                exact up_lt' HLT.out (up_lt HLT.out (SrtS.le HLT.out HY.out (show m ≤ pp - c by omega) (show pp - c ≤ u by omega) hub.2) hlv) (SrtS.le HLT.out HX.out (show a ≤ h by omega) c1 (by omega))⟩)⟩
            | false =>
              have eac : ((u : Int)).toNat = u := by omega
              have pac : (0 : Int) ≤ (u : Int) := by omega
              have bac : (u : Int) < (d.size : Int) := by omega
              have rac : IntKind.i64.wrap ((u : Int)) = (u : Int) := by rw [IntKind.wrap_i64]; omega
              have ecc : ((h : Int)).toNat = h := by omega
              have pcc : (0 : Int) ≤ (h : Int) := by omega
              have bcc : (h : Int) < (d.size : Int) := by omega
              have rcc : IntKind.i64.wrap ((h : Int)) = (h : Int) := by rw [IntKind.wrap_i64]; omega
              obtain ⟨xc, hxc⟩ : ∃ x, x = d[u]! := ⟨_, rfl⟩
              obtain ⟨yc, hyc⟩ : ∃ x, x = d[h]! := ⟨_, rfl⟩
              have lac := S1.out.ld R (by omega) P (u) (by omega)
              have lbc := S1.out.ld R (by omega) P (h) (by omega)
              rw [← hxc] at lac
              rw [← hyc] at lbc
              have hcc := S1.out.cmp HC.out (by omega) xc yc
              have hvc : ¬ cf xc yc < 0 := by rw [hxc, hyc]; exact of_decide_eq_false (hlv)
              have hdc : decide (cf xc yc < 0) = false := decide_eq_false hvc
              clear hxc hyc
              go_wp2_with fail
              go_quiet_grown (first | (go_at_fn g; refine Calls.grown_of (hcc _ _)))
              have S2 : Aside (SWK enc k w0 blk off d (grow (wr.drewN nq) osq)) := S1.out.grown nq osq
              clear lac lbc hcc S1
              generalize grow (wr.drewN nq) osq = w2 at S2 ⊢
              clear nq osq
              go_wp2
              go_roundg (j - (h + 1))
              case measure => omega
              case rel => exact ⟨h + 1, j, by go_num, rfl, by omega, by omega, hjb, Nat.le_refl _, S2, (show _ ∧ _ from ⟨fun c c1 c2 => by
                have hue := HU.out
                exact HLT.out.nt _ _ _ (HLT.out.nt _ _ _ (SrtS.le HLT.out HY.out hub.1 (show u ≤ pp - c by omega) (by omega)) hlv) (SrtS.le HLT.out HX.out (show a ≤ c by omega) (show c ≤ h by omega) (by omega)), HI.out.2⟩)⟩
          · have hltz : ¬ (i : Int) < (j : Int) := by omega
            have e : j = i := by omega
            subst e
            obtain ⟨en, hen⟩ : ∃ en, nn - j = en := ⟨_, rfl⟩
            have ene : (nn : Int) - (j : Int) = (en : Int) := by omega
            have hse : j + en = mid + m := by omega
            have hb1 : a ≤ j ∧ j ≤ m ∧ m ≤ en ∧ en ≤ b ∧ j ≤ mid ∧ mid ≤ en := by omega
            have f1 : a < j → en < b → ltOf cf d[en]! d[j - 1]! = false := fun q1 q2 => by
              have := HI.out.1 (j - 1) (by omega) (by omega)
              rw [show pp - (j - 1) = en by omega] at this
              exact this
            have f2 : j < m → m < en → ltOf cf d[en - 1]! d[j]! = true := fun q1 q2 => by
              have := HI.out.2 j (Nat.le_refl _) (by omega)
              rw [show pp - j = en - 1 by omega] at this
              exact this
            have MS := Lib.hid (fun (r1 r2 r3 : Array α) => merge_step (r1 := r1) (r2 := r2) (r3 := r3) HLT.out hA.1 hA.2 HX.out HY.out hse hb1.1 hb1.2.1 hb1.2.2.1 hb1.2.2.2.1 hb1.2.2.2.2.1 hb1.2.2.2.2.2 f1 f2)
            clear hen f1 f2 HI
            -- the pieces are sorted where they go
            have PL : ∀ r1 : Array α, ((j < m ∧ m < en → ROTS d r1 j m en) ∧ (¬ (j < m ∧ m < en) → r1 = d)) → SrtS (ltOf cf) r1 a j := fun r1 q => pieceL q hb1.2.1 HX.out
            have PM : ∀ r1 : Array α, ((j < m ∧ m < en → ROTS d r1 j m en) ∧ (¬ (j < m ∧ m < en) → r1 = d)) → SrtS (ltOf cf) r1 j mid := fun r1 q => pieceM q hse hb1.2.1 hb1.2.2.1 hb1.2.2.2.1 HY.out
            have PU : ∀ r1 r2 : Array α, ((j < m ∧ m < en → ROTS d r1 j m en) ∧ (¬ (j < m ∧ m < en) → r1 = d)) → ((a < j ∧ j < mid → SMS (ltOf cf) r1 r2 a mid) ∧ (¬ (a < j ∧ j < mid) → r2 = r1)) → SrtS (ltOf cf) r2 mid en := fun r1 r2 q q2 => pieceU q q2 hse hb1.2.1 hb1.2.2.1 hb1.1 HX.out
            have PV : ∀ r1 r2 : Array α, ((j < m ∧ m < en → ROTS d r1 j m en) ∧ (¬ (j < m ∧ m < en) → r1 = d)) → ((a < j ∧ j < mid → SMS (ltOf cf) r1 r2 a mid) ∧ (¬ (a < j ∧ j < mid) → r2 = r1)) → SrtS (ltOf cf) r2 en b := fun r1 r2 q q2 => pieceV q q2 hb1.2.2.1 hb1.2.2.2.2.2 HY.out
            by_cases hrot : j < m ∧ m < en
            · have hq1 : (j : Int) < (m : Int) := by omega
              have hq2 : (m : Int) < (en : Int) := by omega
              have hx := RT.out d wr rfl S1.out j m en hrot.1 hrot.2 (by omega)
              have HX1 := Lib.hid hx
              clear hx S1
              go_wp2_with fail
              refine HX1.out.mono ?_
              rintro e w1 ⟨rfl, r1, hr1, hS1⟩
              have H1 := Lib.hid (show (j < m ∧ m < en → ROTS d r1 j m en) ∧ (¬ (j < m ∧ m < en) → r1 = d) from ⟨fun _ => hr1, fun q => absurd hrot q⟩)
              have T1 : Aside (SWK enc k w0 blk off r1 w1) := hS1
              have z1 : r1.size = d.size := hr1.1.1
              clear hr1 hS1 HX1
              by_cases hlo : a < j ∧ j < mid
              · first
                | (exfalso; omega)
                | (have hq3 : (a : Int) < (j : Int) := by omega
                   have hq4 : (j : Int) < (mid : Int) := by omega
                   have hx := IH.out r1 w1 (z1) T1.out a j mid (by omega) hlo.1 hlo.2 (by omega) (PL r1 H1.out) (PM r1 H1.out)
                   have HX2 := Lib.hid hx
                   clear hx T1
                   go_wp2_with fail
                   refine HX2.out.mono ?_
                   rintro e w2 ⟨rfl, r2, hr2, hS2⟩
                   have H2 := Lib.hid (show (a < j ∧ j < mid → SMS (ltOf cf) r1 r2 a mid) ∧ (¬ (a < j ∧ j < mid) → r2 = r1) from ⟨fun _ => hr2, fun q => absurd hlo q⟩)
                   have T2 : Aside (SWK enc k w0 blk off r2 w2) := hS2
                   have z2 : r2.size = d.size := hr2.1.1.trans (z1)
                   clear hr2 hS2 HX2
                   by_cases hup : mid < en ∧ en < b
                   · first
                     | (exfalso; omega)
                     | (have hq5 : (mid : Int) < (en : Int) := by omega
                        have hq6 : (en : Int) < (b : Int) := by omega
                        have hx := IH.out r2 w2 (z2) T2.out mid en b (by omega) hup.1 hup.2 (by omega) (PU r1 r2 H1.out H2.out) (PV r1 r2 H1.out H2.out)
                        have HX3 := Lib.hid hx
                        clear hx T2
                        go_wp2_with fail
                        refine HX3.out.mono ?_
                        rintro e w3 ⟨rfl, r3, hr3, hS3⟩
                        go_wp2
                        go_end0
                        exact ⟨rfl, r3, MS.out r1 r2 r3 H1.out H2.out ⟨fun _ => hr3, fun q => absurd hup q⟩, hS3⟩)
                   · go_wp2
                     all_goals first | (exfalso; omega) | (go_end0; exact ⟨rfl, r2, MS.out r1 r2 r2 H1.out H2.out ⟨fun q => absurd q hup, fun _ => rfl⟩, T2.out⟩))
              · have T2 : Aside (SWK enc k w0 blk off r1 w1) := T1
                clear T1
                by_cases hup : mid < en ∧ en < b
                · first
                  | (exfalso; omega)
                  | (have hq5 : (mid : Int) < (en : Int) := by omega
                     have hq6 : (en : Int) < (b : Int) := by omega
                     have hx := IH.out r1 w1 (z1) T2.out mid en b (by omega) hup.1 hup.2 (by omega) (PU r1 r1 H1.out ⟨fun q => absurd q hlo, fun _ => rfl⟩) (PV r1 r1 H1.out ⟨fun q => absurd q hlo, fun _ => rfl⟩)
                     have HX3 := Lib.hid hx
                     clear hx T2
                     go_wp2_with fail
                     refine HX3.out.mono ?_
                     rintro e w3 ⟨rfl, r3, hr3, hS3⟩
                     go_wp2
                     go_end0
                     exact ⟨rfl, r3, MS.out r1 r1 r3 H1.out ⟨fun q => absurd q hlo, fun _ => rfl⟩ ⟨fun _ => hr3, fun q => absurd hup q⟩, hS3⟩)
                · go_wp2
                  all_goals first | (exfalso; omega) | (go_end0; exact ⟨rfl, r1, MS.out r1 r1 r1 H1.out ⟨fun q => absurd q hlo, fun _ => rfl⟩ ⟨fun q => absurd q hup, fun _ => rfl⟩, T2.out⟩)
            · have T1 : Aside (SWK enc k w0 blk off d wr) := S1
              clear S1
              by_cases hlo : a < j ∧ j < mid
              · first
                | (exfalso; omega)
                | (have hq3 : (a : Int) < (j : Int) := by omega
                   have hq4 : (j : Int) < (mid : Int) := by omega
                   have hx := IH.out d wr (rfl) T1.out a j mid (by omega) hlo.1 hlo.2 (by omega) (PL d ⟨fun q => absurd q hrot, fun _ => rfl⟩) (PM d ⟨fun q => absurd q hrot, fun _ => rfl⟩)
                   have HX2 := Lib.hid hx
                   clear hx T1
                   go_wp2_with fail
                   refine HX2.out.mono ?_
                   rintro e w2 ⟨rfl, r2, hr2, hS2⟩
                   have H2 := Lib.hid (show (a < j ∧ j < mid → SMS (ltOf cf) d r2 a mid) ∧ (¬ (a < j ∧ j < mid) → r2 = d) from ⟨fun _ => hr2, fun q => absurd hlo q⟩)
                   have T2 : Aside (SWK enc k w0 blk off r2 w2) := hS2
                   have z2 : r2.size = d.size := hr2.1.1.trans (rfl)
                   clear hr2 hS2 HX2
                   by_cases hup : mid < en ∧ en < b
                   · first
                     | (exfalso; omega)
                     | (have hq5 : (mid : Int) < (en : Int) := by omega
                        have hq6 : (en : Int) < (b : Int) := by omega
                        have hx := IH.out r2 w2 (z2) T2.out mid en b (by omega) hup.1 hup.2 (by omega) (PU d r2 ⟨fun q => absurd q hrot, fun _ => rfl⟩ H2.out) (PV d r2 ⟨fun q => absurd q hrot, fun _ => rfl⟩ H2.out)
                        have HX3 := Lib.hid hx
                        clear hx T2
                        go_wp2_with fail
                        refine HX3.out.mono ?_
                        rintro e w3 ⟨rfl, r3, hr3, hS3⟩
                        go_wp2
                        go_end0
                        exact ⟨rfl, r3, MS.out d r2 r3 ⟨fun q => absurd q hrot, fun _ => rfl⟩ H2.out ⟨fun _ => hr3, fun q => absurd hup q⟩, hS3⟩)
                   · go_wp2
                     all_goals first | (exfalso; omega) | (go_end0; exact ⟨rfl, r2, MS.out d r2 r2 ⟨fun q => absurd q hrot, fun _ => rfl⟩ H2.out ⟨fun q => absurd q hup, fun _ => rfl⟩, T2.out⟩))
              · have T2 : Aside (SWK enc k w0 blk off d wr) := T1
                clear T1
                by_cases hup : mid < en ∧ en < b
                · first
                  | (exfalso; omega)
                  | (have hq5 : (mid : Int) < (en : Int) := by omega
                     have hq6 : (en : Int) < (b : Int) := by omega
                     have hx := IH.out d wr (rfl) T2.out mid en b (by omega) hup.1 hup.2 (by omega) (PU d d ⟨fun q => absurd q hrot, fun _ => rfl⟩ ⟨fun q => absurd q hlo, fun _ => rfl⟩) (PV d d ⟨fun q => absurd q hrot, fun _ => rfl⟩ ⟨fun q => absurd q hlo, fun _ => rfl⟩)
                     have HX3 := Lib.hid hx
                     clear hx T2
                     go_wp2_with fail
                     refine HX3.out.mono ?_
                     rintro e w3 ⟨rfl, r3, hr3, hS3⟩
                     go_wp2
                     go_end0
                     exact ⟨rfl, r3, MS.out d d r3 ⟨fun q => absurd q hrot, fun _ => rfl⟩ ⟨fun q => absurd q hlo, fun _ => rfl⟩ ⟨fun _ => hr3, fun q => absurd hup q⟩, hS3⟩)
                · go_wp2
                  all_goals first | (exfalso; omega) | (go_end0; exact ⟨rfl, d, MS.out d d d ⟨fun q => absurd q hrot, fun _ => rfl⟩ ⟨fun q => absurd q hlo, fun _ => rfl⟩ ⟨fun q => absurd q hup, fun _ => rfl⟩, T2.out⟩)
theorem symMerge_any (L : LS P) (k : Nat) (aE : ∀ w, (isAgg 33).run P w = .ok true w) (zE : ∀ w, (Go.sizeOf 33).run P w = .ok k w) (enc : α → List Value) (g : Nat) (blk off cap : Nat) (d0 : Array α) (w0 : World) (R : RowK enc k w0 blk off d0) (cf : α → α → Int) (eg : ∀ args w, (callFunc g args).run P w = .ok (.enter g args) w) (hcmp : CmpLays P g #[] enc k cf blk off d0.size w0) (hl : LtOk (ltOf cf)) (hsz : d0.size < 4611686018427387904) : ∀ (N : Nat) (d : Array α) (w : World) (hs : d0.size = d.size) (S : SWK enc k w0 blk off d w) (a m b : Nat) (hN : b - a < N) (h1 : a < m) (h2 : m < b) (hb : b ≤ d.size) (hX : SrtS (ltOf cf) d a m) (hY : SrtS (ltOf cf) d m b),
    Calls P 108 #[.slice (some ⟨blk, off, none⟩) d.size cap, .int .i64 a, .int .i64 m, .int .i64 b, .func (.func g) #[] #[]] w fun e w' => e = .returned (.tuple #[]) ∧ ∃ r : Array α, SMS (ltOf cf) d r a b ∧ SWK enc k w0 blk off r w'
  | 0, _, _, _, _, _, _, _, hN, _, _, _, _, _ => absurd hN (Nat.not_lt_zero _)
  | N + 1, d, w, hs, S, a, m, b, hN, h1, h2, hb, hX, hY =>
    symMerge_step L k aE zE enc g blk off cap d0 w0 R cf eg hcmp hl (b - a) (fun d w hs S a' m' b' hN' h1 h2 hb hX hY => symMerge_any L k aE zE enc g blk off cap d0 w0 R cf eg hcmp hl hsz N d w hs S a' m' b' (by omega) h1 h2 hb hX hY) d w hs S a m b rfl h1 h2 hb hX hY (by omega)
end Go.Proofs.YtbeodechhneeeaaGreatDoor


set_option linter.unusedVariables false
set_option linter.unusedSimpArgs false
set_option maxRecDepth 1000000
namespace Go.Proofs.YtbeodechhneeeaaGreatDoor
open Go.Shelf Go.RowKit Go.Lib Go.Sort

variable {P : Program} {α : Type} [Inhabited α]
def BK (lt : α → α → Bool) (d : Array α) (s n : Nat) : Prop := ∀ x y, x < y → y < n → x / s = y / s → lt d[y]! d[x]! = false
theorem sms_cls {lt : α → α → Bool} {d r : Array α} {a b n : Nat} (h : SMS lt d r a b) (hab : a ≤ b) (hb : b ≤ n) (z : α) : cls lt r 0 n z = cls lt d 0 n z := by
  rw [cls_split r (a := 0) (c := a) (Nat.zero_le _) (by omega), cls_split r (a := a) (c := b) hab hb, cls_split d (a := 0) (c := a) (Nat.zero_le _) (by omega), cls_split d (a := a) (c := b) hab hb, h.2.2 z,
    cls_same (fun x _ x2 => h.1.2 x (.inl x2)) z, cls_same (fun x x1 _ => h.1.2 x (.inr x1)) z]
/-- What every step keeps. -/
structure KP (lt : α → α → Bool) (d dk : Array α) : Prop where
  sz : dk.size = d.size
  cl : ∀ z, cls lt dk 0 d.size z = cls lt d 0 d.size z
theorem KP.refl (lt : α → α → Bool) (d : Array α) : KP lt d d := ⟨rfl, fun z => rfl⟩
theorem KP.step {lt : α → α → Bool} {d dk r : Array α} {a b : Nat} (h : KP lt d dk) (hs : SMS lt dk r a b) (hab : a ≤ b) (hb : b ≤ d.size) : KP lt d r := ⟨hs.1.1.trans h.sz, fun z => (sms_cls hs hab hb z).trans (h.cl z)⟩
set_option maxHeartbeats 800000 in
theorem insert_none (L : LS P) (v fv : Value) (w : World) : Calls P 107 #[v, .int .i64 0, .int .i64 0, fv] w fun e w' => e = .returned (.tuple #[]) ∧ w = w' := by
  have mixed := L.mixed; have t0 := L.t0; have a0 := L.a0; have z0 := L.z0; have v0 := L.v0; have t3 := L.t3; have a3 := L.a3; have z3 := L.z3; have v3 := L.v3; have t4 := L.t4; have a4 := L.a4; have z4 := L.z4; have v4 := L.v4; have t27 := L.t27; have a27 := L.a27; have z27 := L.z27; have v27 := L.v27; have t33 := L.t33; have a33 := L.a33; have z33 := L.z33; have v33 := L.v33; have t97 := L.t97; have a97 := L.a97; have z97 := L.z97; have v97 := L.v97
  go_enter L.f88, Tryz.ntmps107
  go_wp2
  refine wp_loop_rounds 1 ?_
  rw [rounds_succ]
  go_wp2
  go_end0
  exact ⟨rfl, rfl⟩
set_option maxHeartbeats 800000 in
theorem stable_none (L : LS P) (v fv : Value) (w : World) : Calls P 96 #[v, .int .i64 0, fv] w fun e w' => e = .returned (.tuple #[]) ∧ w = w' := by
  have IN := Lib.hid (fun W => insert_none L v fv W)
  have mixed := L.mixed; have t0 := L.t0; have a0 := L.a0; have z0 := L.z0; have v0 := L.v0; have t3 := L.t3; have a3 := L.a3; have z3 := L.z3; have v3 := L.v3; have t4 := L.t4; have a4 := L.a4; have z4 := L.z4; have v4 := L.v4; have t27 := L.t27; have a27 := L.a27; have z27 := L.z27; have v27 := L.v27; have t33 := L.t33; have a33 := L.a33; have z33 := L.z33; have v33 := L.v33; have t97 := L.t97; have a97 := L.a97; have z97 := L.z97; have v97 := L.v97
  have e88 : ∀ args w, (callFunc 107 args).run P w = .ok (.enter 107 args) w := enters_of L.f88 (by kernel_rfl) rfl
  go_enter L.f84, Tryz.ntmps96
  go_wp2
  refine wp_loop_rounds 1 ?_
  rw [rounds_succ]
  go_wp2_with fail
  refine (IN.out _).mono ?_
  rintro e w1 ⟨rfl, rfl⟩
  go_wp2
  refine wp_loop_rounds 1 ?_
  rw [rounds_succ]
  go_wp2
  go_end0
  exact ⟨rfl, rfl⟩
set_option maxHeartbeats 12800000 in
theorem stable_any (L : LS P) (k : Nat) (aE : ∀ w, (isAgg 33).run P w = .ok true w) (zE : ∀ w, (Go.sizeOf 33).run P w = .ok k w) (enc : α → List Value) (g : Nat) (blk off cap : Nat) (d0 : Array α) (w0 : World) (R : RowK enc k w0 blk off d0) (cf : α → α → Int) (eg : ∀ args w, (callFunc g args).run P w = .ok (.enter g args) w) (hcmp : CmpLays P g #[] enc k cf blk off d0.size w0) (hl : LtOk (ltOf cf)) (d : Array α) (w : World) (hs : d0.size = d.size) (S : SWK enc k w0 blk off d w) (hn : d.size ≤ 79) :
    Calls P 96 #[.slice (some ⟨blk, off, none⟩) d.size cap, .int .i64 d.size, .func (.func g) #[] #[]] w fun e w' => e = .returned (.tuple #[]) ∧ ∃ r : Array α, KP (ltOf cf) d r ∧ SrtS (ltOf cf) r 0 d.size ∧ SWK enc k w0 blk off r w' := by
  have INS := Lib.hid (fun (dk : Array α) (wr : World) (hd : dk.size = d.size) (S : SWK enc k w0 blk off dk wr) (a b : Nat) (hab : a ≤ b) (hb : b ≤ d.size) => by
    have := insert_any L k aE zE enc g blk off cap d0 w0 R cf eg hcmp hl dk wr (hs.trans hd.symm) S a b hab (by omega) (by omega)
    rw [hd] at this
    exact this)
  have MRG := Lib.hid (fun (dk : Array α) (wr : World) (hd : dk.size = d.size) (S : SWK enc k w0 blk off dk wr) (a m b : Nat) (h1 : a < m) (h2 : m < b) (hb : b ≤ d.size) (hX : SrtS (ltOf cf) dk a m) (hY : SrtS (ltOf cf) dk m b) => by
    have := symMerge_any L k aE zE enc g blk off cap d0 w0 R cf eg hcmp hl (by omega) (b - a + 1) dk wr (hs.trans hd.symm) S a m b (by omega) h1 h2 (by omega) hX hY
    rw [hd] at this
    exact this)
  have mixed := L.mixed; have t0 := L.t0; have a0 := L.a0; have z0 := L.z0; have v0 := L.v0; have t3 := L.t3; have a3 := L.a3; have z3 := L.z3; have v3 := L.v3; have t4 := L.t4; have a4 := L.a4; have z4 := L.z4; have v4 := L.v4; have t27 := L.t27; have a27 := L.a27; have z27 := L.z27; have v27 := L.v27; have t33 := L.t33; have a33 := L.a33; have z33 := L.z33; have v33 := L.v33; have t97 := L.t97; have a97 := L.a97; have z97 := L.z97; have v97 := L.v97
  have e88 : ∀ args w, (callFunc 107 args).run P w = .ok (.enter 107 args) w := enters_of L.f88 (by kernel_rfl) rfl
  have e89 : ∀ args w, (callFunc 108 args).run P w = .ok (.enter 108 args) w := enters_of L.f89 (by kernel_rfl) rfl
  have S0 : Aside (SWK enc k w0 blk off d w) := S
  have D0 : Aside (KP (ltOf cf) d d) := KP.refl _ d
  clear hcmp hl S
  obtain ⟨n, hnn⟩ : ∃ n, d.size = n := ⟨_, rfl⟩
  have HN : Aside (d.size = n) := hnn
  rw [hnn] at hn INS MRG ⊢
  clear hnn
  go_enter L.f84, Tryz.ntmps96
  go_wp2
  go_loopg [7, 8] (n + 1) (fun kx s7 s8 wr => ∃ (i : Nat) (dk : Array α), s7 = .int .i64 ((20 * i : Nat) : Int) ∧ s8 = .int .i64 ((20 * i + 20 : Nat) : Int) ∧ 20 * i ≤ n ∧ n + 1 - 20 * i ≤ kx ∧ Aside (SWK enc k w0 blk off dk wr) ∧ Hid (KP (ltOf cf) d dk ∧ BK (ltOf cf) dk 20 (20 * i)))
  case atStart => exact ⟨0, d, by first | rfl | go_num, by first | rfl | go_num, by omega, by omega, S0, (show _ ∧ _ from ⟨D0.out, fun x y xy yn => by omega⟩)⟩
  case round =>
    clear S0
    obtain ⟨i, dk, rfl, rfl, hin, hkx, S1, HI⟩ := hrel
    obtain ⟨a, ha⟩ : ∃ a, 20 * i = a := ⟨_, rfl⟩
    have HA : Aside (20 * i = a) := ha
    rw [ha] at hin hkx HI ⊢
    have eb : ((a + 20 : Nat) : Int) = (a : Int) + 20 := by omega
    clear ha
    have hszk : dk.size = n := HI.out.1.sz.trans HN.out
    by_cases hlt : a + 20 ≤ n
    · have hltz : (a : Int) + 20 ≤ (n : Int) := by omega
      have hx := INS.out dk wr hszk S1.out a (a + 20) (by omega) hlt
      rw [eb] at hx
      have HX := Lib.hid hx
      clear hx S1 eb
      go_wp2_with fail
      refine HX.out.mono ?_
      rintro e w1 ⟨rfl, r, hr, hS⟩
      go_wp2
      go_roundg (n + 1 - 20 * (i + 1))
      case measure => have := HA.out; omega
      case rel =>
        have e1 := HA.out
        refine ⟨i + 1, r, by rw [show 20 * (i + 1) = a + 20 by omega]; go_num, by rw [show 20 * (i + 1) + 20 = a + 40 by omega]; go_num, by omega, Nat.le_refl _, hS, (show _ ∧ _ from ⟨HI.out.1.step hr (by omega) (by rw [HN.out]; omega), fun x y xy yn q => ?_⟩)⟩
        by_cases hy : y < a
        · rw [hr.1.2 x (by omega), hr.1.2 y (by omega)]; exact HI.out.2 x y xy (by omega) q
        · exact hr.2.1 x y (by omega) xy (by omega)
    · have hltz : ¬ (a : Int) + 20 ≤ (n : Int) := by omega
      have hx := INS.out dk wr hszk S1.out a n hin (Nat.le_refl _)
      have HX := Lib.hid hx
      clear hx S1
      go_wp2_with fail
      refine HX.out.mono ?_
      rintro e w1 ⟨rfl, r, hr, hS⟩
      have S2 : Aside (SWK enc k w0 blk off r w1) := hS
      have K2 : Aside (KP (ltOf cf) d r) := HI.out.1.step hr hin (by rw [HN.out]; exact Nat.le_refl _)
      have B2 : Aside (BK (ltOf cf) r 20 n) := show BK (ltOf cf) r 20 n from fun x y xy yn q => by
        have e1 := HA.out
        by_cases hy : y < a
        · rw [hr.1.2 x (by omega), hr.1.2 y (by omega)]; exact HI.out.2 x y xy (by omega) q
        · exact hr.2.1 x y (by omega) xy (by omega)
      clear hr hS HX HI hltz hszk eb
      go_wp2_with fail
      go_loopg [6] 3 (fun kx s6 wr => ∃ (dk : Array α), Aside (SWK enc k w0 blk off dk wr) ∧ Aside (KP (ltOf cf) d dk) ∧ ((s6 = .int .i64 20 ∧ kx = 3 ∧ Hid (BK (ltOf cf) dk 20 n)) ∨ (s6 = .int .i64 40 ∧ kx = 2 ∧ Hid (BK (ltOf cf) dk 40 n)) ∨ (s6 = .int .i64 80 ∧ kx = 1 ∧ Hid (SrtS (ltOf cf) dk 0 n))))
      case atStart => exact ⟨r, S2, K2, Or.inl ⟨rfl, rfl, B2⟩⟩
      case round =>
        clear S2 K2 B2 r
        obtain ⟨dk, S1, K1, ⟨rfl, rfl, HB⟩ | ⟨rfl, rfl, HB⟩ | ⟨rfl, rfl, HB⟩⟩ := hrel
        · by_cases h20 : 20 < n
          · have h20z : (20 : Int) < (n : Int) := by omega
            go_wp2_with fail
            go_loopg [7, 8] (n + 1) (fun kx s7 s8 wr => ∃ (i : Nat) (dj : Array α), s7 = .int .i64 ((40 * i : Nat) : Int) ∧ s8 = .int .i64 ((40 * i + 40 : Nat) : Int) ∧ 40 * i ≤ n ∧ n + 1 - 40 * i ≤ kx ∧ Aside (SWK enc k w0 blk off dj wr) ∧ Aside (KP (ltOf cf) d dj) ∧ Hid (BK (ltOf cf) dj 40 (40 * i) ∧ ∀ x y, 40 * i ≤ x → x < y → y < n → x / 20 = y / 20 → ltOf cf dj[y]! dj[x]! = false))
            case atStart => exact ⟨0, dk, by first | rfl | go_num, by first | rfl | go_num, by omega, by omega, S1, K1, (show _ ∧ _ from ⟨fun x y xy yn => by omega, fun x y _ xy yn q => HB.out x y xy yn q⟩)⟩
            case round =>
              clear S1 K1 HB dk
              obtain ⟨i, dk, rfl, rfl, hin, hkx, S1, K1, HI⟩ := hrel
              obtain ⟨a, ha⟩ : ∃ a, 40 * i = a := ⟨_, rfl⟩
              have HA : Aside (40 * i = a) := ha
              rw [ha] at hin hkx HI ⊢
              have eb : ((a + 40 : Nat) : Int) = (a : Int) + 40 := by omega
              have em : ((a + 20 : Nat) : Int) = (a : Int) + 20 := by omega
              clear ha
              have hszk : dk.size = n := K1.out.sz.trans HN.out
              by_cases hlt : a + 40 ≤ n
              · have hltz : (a : Int) + 40 ≤ (n : Int) := by omega
                have hx := MRG.out dk wr (hszk) S1.out a (a + 20) (a + 40) (by omega) (by omega) hlt (fun x y x1 xy y2 => HI.out.2 x y x1 xy (by omega) (by have := HA.out; omega)) (fun x y x1 xy y2 => HI.out.2 x y (by omega) xy (by omega) (by have := HA.out; omega))
                rw [eb, em] at hx
                have HX := Lib.hid hx
                clear hx S1 eb em
                go_wp2_with fail
                refine HX.out.mono ?_
                rintro e w1 ⟨rfl, r, hr, hS⟩
                go_wp2
                go_roundg (n + 1 - 40 * (i + 1))
                case measure => have := HA.out; omega
                case rel =>
                  have e1 := HA.out
                  refine ⟨i + 1, r, by rw [show 40 * (i + 1) = a + 40 by omega]; go_num, by rw [show 40 * (i + 1) + 40 = a + 80 by omega]; go_num, by omega, Nat.le_refl _, hS, K1.out.step hr (by omega) (by rw [HN.out]; omega), (show _ ∧ _ from ⟨fun x y xy yn q => ?_, fun x y x1 xy yn q => ?_⟩)⟩
                  · by_cases hy : y < a
                    · rw [hr.1.2 x (by omega), hr.1.2 y (by omega)]; exact HI.out.1 x y xy (by omega) q
                    · exact hr.2.1 x y (by omega) xy (by omega)
                  · rw [hr.1.2 x (by omega), hr.1.2 y (by omega)]; exact HI.out.2 x y (by omega) xy yn q
              · have hltz : ¬ (a : Int) + 40 ≤ (n : Int) := by omega
                by_cases hm : a + 20 < n
                · have hmz : (a : Int) + 20 < (n : Int) := by omega
                  have hx := MRG.out dk wr (hszk) S1.out a (a + 20) n (by omega) hm (Nat.le_refl _) (fun x y x1 xy y2 => HI.out.2 x y x1 xy (by omega) (by have := HA.out; omega)) (fun x y x1 xy y2 => HI.out.2 x y (by omega) xy (by omega) (by have := HA.out; omega))
                  rw [em] at hx
                  have HX := Lib.hid hx
                  clear hx S1 eb em
                  go_wp2_with fail
                  refine HX.out.mono ?_
                  rintro e w1 ⟨rfl, r, hr, hS⟩
                  go_wp2
                  go_roundg 2
                  case measure => omega
                  case rel =>
                    refine ⟨r, hS, K1.out.step hr hin (by rw [HN.out]; exact Nat.le_refl _), Or.inr (Or.inl ⟨by first | rfl | go_num, rfl, (show BK _ _ _ _ from fun x y xy yn q => ?_)⟩)⟩
                    have e1 := HA.out
                    by_cases hy : y < a
                    · rw [hr.1.2 x (by omega), hr.1.2 y (by omega)]; exact HI.out.1 x y xy (by omega) q
                    · exact hr.2.1 x y (by omega) xy (by omega)
                · have hmz : ¬ (a : Int) + 20 < (n : Int) := by omega
                  clear eb em
                  go_wp2
                  go_roundg 2
                  case measure => omega
                  case rel =>
                    refine ⟨dk, S1, K1, Or.inr (Or.inl ⟨by first | rfl | go_num, rfl, (show BK _ _ _ _ from fun x y xy yn q => ?_)⟩)⟩
                    have e1 := HA.out
                    by_cases hy : y < a
                    · exact HI.out.1 x y xy (by omega) q
                    · exact HI.out.2 x y (by omega) xy yn (by omega)
          · have h20z : ¬ (20 : Int) < (n : Int) := by omega
            go_wp2
            go_end0
            exact ⟨rfl, dk, K1.out, fun x y _ xy yn => HB.out x y xy yn (by omega), S1.out⟩
        · by_cases h40 : 40 < n
          · have h40z : (40 : Int) < (n : Int) := by omega
            have h80z : ¬ (80 : Int) ≤ (n : Int) := by omega
            have hszk : dk.size = n := K1.out.sz.trans HN.out
            have hx := MRG.out dk wr (hszk) S1.out 0 40 n (by omega) h40 (Nat.le_refl _) (fun x y x1 xy y2 => HB.out x y xy (by omega) (by omega)) (fun x y x1 xy y2 => HB.out x y xy (by omega) (by omega))
            have HX := Lib.hid hx
            clear hx S1
            go_wp2_with fail
            refine wp_loop_rounds 1 ?_
            rw [rounds_succ]
            go_wp2_with fail
            refine HX.out.mono ?_
            rintro e w1 ⟨rfl, r, hr, hS⟩
            go_wp2
            go_roundg 1
            case measure => omega
            case rel => exact ⟨r, hS, K1.out.step hr (by omega) (by rw [HN.out]; exact Nat.le_refl _), Or.inr (Or.inr ⟨by first | rfl | go_num, rfl, hr.2.1⟩)⟩
          · have h40z : ¬ (40 : Int) < (n : Int) := by omega
            go_wp2
            go_end0
            exact ⟨rfl, dk, K1.out, fun x y _ xy yn => HB.out x y xy yn (by omega), S1.out⟩
        · have h80z : ¬ (80 : Int) < (n : Int) := by omega
          go_wp2
          go_end0
          exact ⟨rfl, dk, K1.out, HB.out, S1.out⟩
end Go.Proofs.YtbeodechhneeeaaGreatDoor


set_option linter.unusedVariables false
set_option maxRecDepth 100000
namespace Go.Proofs.YtbeodechhneeeaaGreatDoor
open Go.RowKit Go.Sort Go.Shelf

section
variable {α : Type} {enc : α → List Value} {k : Nat}
theorem flat_get (hk : ∀ x, (enc x).length = k) : ∀ (l : List α) (i r : Nat) (x : α), l[i]? = some x → r < k → (l.flatMap enc)[i * k + r]? = (enc x)[r]?
  | [], i, r, x, h, _ => by simp at h
  | y :: l, 0, r, x, h, hr => by
    injection h with h
    subst h
    rw [List.flatMap_cons, Nat.zero_mul, Nat.zero_add, List.getElem?_append_left (by rw [hk]; exact hr)]
  | y :: l, i + 1, r, x, h, hr => by
    rw [List.flatMap_cons, List.getElem?_append_right (by rw [hk, Nat.succ_mul]; omega), hk, show (i + 1) * k + r - k = i * k + r by rw [Nat.succ_mul]; omega]
    exact flat_get hk l i r x h hr
theorem flat_len (hk : ∀ x, (enc x).length = k) : ∀ l : List α, (l.flatMap enc).length = l.length * k
  | [] => by simp
  | y :: l => by rw [List.flatMap_cons, List.length_append, hk, flat_len hk l, List.length_cons, Nat.succ_mul]; omega
theorem flat_array [Inhabited α] (hk : ∀ x, (enc x).length = k) (hk0 : 0 < k) (l : List α) (t : Nat) (ht : t < l.length * k) : (flatK enc k l.toArray)[t]! = ((l.flatMap enc)[t]?).getD default := by
  have hd : t / k < l.length := Nat.div_lt_of_lt_mul (by rw [Nat.mul_comm]; exact ht)
  have hm : t % k < k := Nat.mod_lt _ hk0
  rw [get_flatK _ _ _ _ (by simpa using ht)]
  have h := flat_get hk l (t / k) (t % k) l[t / k] (List.getElem?_eq_getElem hd) hm
  rw [show t / k * k + t % k = t from by rw [Nat.mul_comm]; exact Nat.div_add_mod t k] at h
  rw [h]
  have e : l.toArray[t / k]! = l[t / k] := by simp [hd]
  rw [e]
  have hlt : t % k < (enc l[t / k]).length := by rw [hk]; exact hm
  rw [List.getElem?_eq_getElem hlt]
  simp [hlt]
theorem holdsK_block [Inhabited α] (hk : ∀ x, (enc x).length = k) (hk0 : 0 < k) {w : World} {g : Nat} {cur : Array Value} {e : TypeId} {l : List α} (hb : w.heap[g]? = some (.cells cur e (0, 0))) (ht : cur.toList.take (l.length * k) = l.flatMap enc) : HoldsK enc k w g 0 l.toArray := by
  intro j hj
  have hj' : j < l.length * k := by simpa using hj
  refine ⟨?_, by simp [World.frozen?, hb]⟩
  rw [Nat.zero_add, cell_of_row _ _ _ _ _ _ hb, flat_array hk hk0 l j hj', ← ht, List.getElem?_take_of_lt hj', Array.getElem?_toList]
  have hlt : j < (l.flatMap enc).length := by rw [flat_len hk]; exact hj'
  have hc : j < cur.size := by
    have := congrArg List.length ht
    rw [List.length_take, flat_len hk] at this
    have h2 : cur.toList.length = cur.size := Array.length_toList
    omega
  rw [Array.getElem?_eq_getElem hc]
  rfl
theorem heapK [Inhabited α] {w : World} {g n : Nat} {os : Array Obj} {cur : Array Value} {e : TypeId} {fr : Nat × Nat} (d : Array α) (hb : w.heap[g]? = some (.cells cur e fr)) :
    (sortWorldK enc k w g 0 n d os).heap[g]? = some (.cells (putCells id 0 (flatK enc k d) cur) e fr) := by
  have hg : g < w.heap.size := (Array.getElem?_eq_some_iff.1 hb).1
  unfold sortWorldK putRowK
  rw [heap_grow_old _ _ (by simpa using hg)]
  simp [putRow, mapBlock, Sort.ahead, Array.getElem?_modify, hb, onCells]
theorem grownK [Inhabited α] {w : World} {g n : Nat} {os : Array Obj} (d : Array α) : w.grownBy (sortWorldK enc k w g 0 n d os) (some g) := by
  unfold sortWorldK putRowK
  refine ⟨rfl, rfl, rfl, by simp, fun i hi hne => ?_⟩
  rw [heap_grow_old _ _ (by simpa using hi)]
  have : g ≠ i := fun e => hne (by rw [e])
  simp [putRow, mapBlock, Sort.ahead, Array.getElem?_modify, this]
theorem takeK [Inhabited α] (hk : ∀ x, (enc x).length = k) (hk0 : 0 < k) (cur : Array Value) (l : List α) (h : l.length * k ≤ cur.size) : (putCells id 0 (flatK enc k l.toArray) cur).toList.take (l.length * k) = l.flatMap enc := by
  apply List.ext_getElem?
  intro j
  by_cases hj : j < l.length * k
  · rw [List.getElem?_take_of_lt hj, Array.getElem?_toList]
    have hlt : j < (l.flatMap enc).length := by rw [flat_len hk]; exact hj
    have e := flat_array hk hk0 l j hj
    rw [List.getElem?_eq_getElem hlt] at e ⊢
    have hc : j < cur.size := by omega
    unfold putCells
    rw [Array.getElem?_mapIdx, Array.getElem?_eq_getElem hc]
    simp only [Option.map_some, Nat.zero_le, Nat.zero_add, true_and, Nat.sub_zero, id]
    rw [if_pos (by simpa using hj), e]
    rfl
  · rw [List.getElem?_take_eq_none (by omega), List.getElem?_eq_none (by rw [flat_len hk]; omega)]
end
end Go.Proofs.YtbeodechhneeeaaGreatDoor


set_option linter.unusedVariables false
set_option linter.unusedSimpArgs false
set_option maxRecDepth 100000
namespace Go.Proofs.YtbeodechhneeeaaGreatDoor
open Go.Shelf Go.RowKit Go.Lib Go.Sort
noncomputable instance instInhQF : Inhabited O := ⟨O0⟩

def cfO (x y : O) : Int := St.cmpS x.t x.r y.t y.r
theorem lt_cf (x y : O) : ltOf cfO x y = lessO x y := by
  unfold ltOf cfO lessO
  rcases St.cmp_less x.t x.r y.t y.r with ⟨h1, h2⟩ | ⟨h1, _, h2⟩ | ⟨h1, _, h2⟩ <;> rw [h1, h2] <;> decide
theorem less_dec (x y : O) : lessO x y = decide ((x.t = y.t ∧ x.r < y.r) ∨ (x.t ≠ y.t ∧ x.t < y.t)) := by
  unfold lessO St.lessB
  by_cases h : x.t = y.t
  · rw [if_pos h]; simp [h]
  · rw [if_neg h]; simp [h]
theorem ltOk : LtOk (ltOf cfO) := ⟨fun x y z h1 h2 => by
    rw [lt_cf, less_dec, decide_eq_false_iff_not] at *
    omega, fun x y h1 => by
    rw [lt_cf, less_dec] at *
    rw [decide_eq_true_iff] at h1
    rw [decide_eq_false_iff_not]
    omega⟩
def ins (x : O) : List O → List O
  | [] => [x]
  | y :: u => if lessO x y then x :: y :: u else y :: ins x u
theorem fold_true (x : O) : ∀ (u a : List O), u.foldl (stepO x) (a, true) = (a ++ u, true)
  | [], a => by simp
  | y :: u, a => by rw [List.foldl_cons, show stepO x (a, true) y = (a ++ [y], true) from by unfold stepO; simp, fold_true x u]; simp
theorem fold_ins (x : O) : ∀ (u a : List O), (if (u.foldl (stepO x) (a, false)).2 then (u.foldl (stepO x) (a, false)).1 else (u.foldl (stepO x) (a, false)).1 ++ [x]) = a ++ ins x u
  | [], a => by simp [ins]
  | y :: u, a => by
    rw [List.foldl_cons]
    cases h : lessO x y with
    | true => rw [show stepO x (a, false) y = (a ++ [x] ++ [y], true) from by unfold stepO; simp [h], fold_true]; simp [ins, h]
    | false => rw [show stepO x (a, false) y = (a ++ [y], false) from by unfold stepO; simp [h], fold_ins x u]; simp [ins, h]
theorem insO_ins (x : O) (u : List O) : insO x u = ins x u := by
  unfold insO foldO
  exact (fold_ins x u []).trans (List.nil_append _)
theorem ins_mem (x b : O) : ∀ u, b ∈ ins x u → b = x ∨ b ∈ u
  | [], h => by simpa [ins] using h
  | y :: u, h => by
    unfold ins at h
    split at h
    · rcases List.mem_cons.1 h with h | h
      · exact .inl h
      · exact .inr h
    · rcases List.mem_cons.1 h with h | h
      · exact .inr (by rw [h]; exact List.mem_cons_self)
      · exact (ins_mem x b u h).imp id (List.mem_cons_of_mem _)
theorem ins_srt (x : O) : ∀ u : List O, u.Pairwise (fun a b => ltOf cfO b a = false) → (ins x u).Pairwise (fun a b => ltOf cfO b a = false)
  | [], _ => List.pairwise_singleton _ _
  | y :: u, h => by
    obtain ⟨h1, h2⟩ := List.pairwise_cons.1 h
    unfold ins
    split
    case isTrue hc =>
      have hc' : ltOf cfO x y = true := by rw [lt_cf]; exact hc
      refine List.pairwise_cons.2 ⟨fun b hb => ?_, h⟩
      have hz : ltOf cfO b y = false := by
        rcases List.mem_cons.1 hb with rfl | hb
        · exact ltOk.ir _
        · exact h1 b hb
      exact ltOk.asy _ _ (up_lt' ltOk hc' hz)
    case isFalse hc =>
      refine List.pairwise_cons.2 ⟨fun b hb => ?_, ins_srt x u h2⟩
      rcases ins_mem x b u hb with rfl | hb
      · rw [lt_cf]; simpa using hc
      · exact h1 b hb
theorem ins_cls (x z : O) : ∀ u : List O, u.Pairwise (fun a b => ltOf cfO b a = false) → (ins x u).filter (eqv (ltOf cfO) z) = (u ++ [x]).filter (eqv (ltOf cfO) z)
  | [], _ => rfl
  | y :: u, h => by
    obtain ⟨h1, h2⟩ := List.pairwise_cons.1 h
    unfold ins
    split
    case isTrue hc =>
      have hc' : ltOf cfO x y = true := by rw [lt_cf]; exact hc
      refine (strict_swap ltOk (y :: u) [x] (fun a ha b hb => ?_) z).symm
      obtain rfl := List.mem_singleton.1 hb
      refine up_lt' ltOk hc' ?_
      rcases List.mem_cons.1 ha with rfl | ha
      · exact ltOk.ir _
      · exact h1 a ha
    case isFalse hc =>
      rw [List.cons_append, List.filter_cons, List.filter_cons, ins_cls x z u h2]
theorem srt_ok : ∀ (l u : List O), u.Pairwise (fun a b => ltOf cfO b a = false) → (l.foldl (fun u x => insO x u) u).Pairwise (fun a b => ltOf cfO b a = false) ∧ ∀ z, (l.foldl (fun u x => insO x u) u).filter (eqv (ltOf cfO) z) = (u ++ l).filter (eqv (ltOf cfO) z)
  | [], u, h => ⟨h, fun z => by simp⟩
  | x :: l, u, h => by
    rw [List.foldl_cons, insO_ins]
    obtain ⟨a, b⟩ := srt_ok l (ins x u) (ins_srt x u h)
    refine ⟨a, fun z => ?_⟩
    rw [b z, List.filter_append, ins_cls x z u h, ← List.filter_append, List.append_assoc]
    rfl
theorem seg_all (l : List O) : seg l.toArray 0 l.length = l := by
  unfold seg
  apply List.ext_getElem (by simp)
  intro i h1 h2
  simp only [List.getElem_map, List.getElem_range', Nat.zero_add, Nat.one_mul]
  simp [h2]
theorem srt_eq {l l' : List O} (hk : KP (ltOf cfO) l.toArray l'.toArray) (hs : SrtS (ltOf cfO) l'.toArray 0 l.length) : l' = srtO l := by
  have hlen : l'.length = l.length := by simpa using hk.sz
  have hs' := seg_pair hs
  rw [← hlen, seg_all] at hs'
  refine stable_one ltOk l' (srtO l) hs' (srt_ok l [] List.Pairwise.nil).1 (fun z => ?_)
  have hc := hk.cl z
  unfold cls at hc
  rw [show l.toArray.size = l.length from by simp, seg_all, ← hlen, seg_all] at hc
  rw [hc]
  exact ((srt_ok l [] List.Pairwise.nil).2 z).symm
set_option maxHeartbeats 1000000 in
theorem stamp_exact (a1 a2 b1 b2 : Int) (W : World) : Calls Tryz.prog 32 #[.agg #[.int .i64 a1, .int .i64 a2], .agg #[.int .i64 b1, .int .i64 b2]] W fun e w' => e = .returned (.int .i64 (St.cmpS a1 a2 b1 b2)) ∧ ∃ q os', w' = grow (W.drewN q) os' := by
  have hcon := fun a b W' => Tryz.cmp_Compare_int a b W'
  unfold St.cmpS
  by_cases h : a1 = b1
  · rw [if_pos h]
    have t1 : (a1 != b1) = false := by simp [h]
    clear h
    go_enter Tryz.func32, Tryz.ntmps32
    go_wp2_with (go_at_call 58; refine (hcon _ _ _).mono ?_; rintro e w' ⟨rfl, rfl⟩)
    go_returns
    exact ⟨rfl, 0, _, by rw [alloc_eq_grow, alloc_eq_grow, grow_grow]; rfl⟩
  · rw [if_neg h]
    have t1 : (a1 != b1) = true := by simp [h]
    clear h
    go_enter Tryz.func32, Tryz.ntmps32
    go_wp2_with (go_at_call 58; refine (hcon _ _ _).mono ?_; rintro e w' ⟨rfl, rfl⟩)
    go_returns
    exact ⟨rfl, 0, _, by rw [alloc_eq_grow, alloc_eq_grow, grow_grow]; rfl⟩
set_option maxHeartbeats 1000000 in
theorem compare_exact (x y : O) (W : World) : Calls Tryz.prog 71 #[.agg #[.int .i64 x.t, .int .i64 x.r, .int .i64 x.q, .int .i64 x.nt, .int .i64 x.nr, .int .i64 x.pt, .int .i64 x.pr, .string x.nm, .bool x.d], .agg #[.int .i64 y.t, .int .i64 y.r, .int .i64 y.q, .int .i64 y.nt, .int .i64 y.nr, .int .i64 y.pt, .int .i64 y.pr, .string y.nm, .bool y.d]] W fun e w' => e = .returned (.int .i64 (cfO x y)) ∧ ∃ q os', w' = grow (W.drewN q) os' := by
  have hcon := fun W' => stamp_exact x.t x.r y.t y.r W'
  unfold cfO
  go_enter Tryz.func71, Tryz.ntmps71
  go_wp2_with (go_at_call 32; refine (hcon _).mono ?_; rintro e w' ⟨rfl, q, os, rfl⟩)
  go_returns
  exact ⟨rfl, q, _, by rw [alloc_eq_grow, alloc_eq_grow, grow_grow]; exact grow_grow (W.drewN q) _ os⟩
theorem lsO : LS Tryz.prog where
  mixed := by kernel_rfl
  f84 := Tryz.func96
  f88 := Tryz.func107
  f89 := Tryz.func108
  f92 := Tryz.func123
  f97 := Tryz.func133
  t0 := Tryz.underlying0
  a0 := Tryz.isAgg0
  z0 := Tryz.sizeOf0
  v0 := Tryz.zeroValue0
  t3 := Tryz.underlying3
  a3 := Tryz.isAgg3
  z3 := Tryz.sizeOf3
  v3 := Tryz.zeroValue3
  t4 := Tryz.underlying4
  a4 := Tryz.isAgg4
  z4 := Tryz.sizeOf4
  v4 := Tryz.zeroValue4
  t27 := Tryz.underlying22
  a27 := Tryz.isAgg22
  z27 := Tryz.sizeOf22
  v27 := Tryz.zeroValue22
  t33 := Tryz.underlying109
  a33 := Tryz.isAgg109
  z33 := Tryz.sizeOf109
  v33 := Tryz.zeroValue109
  t97 := Tryz.underlying130
  a97 := Tryz.isAgg130
  z97 := Tryz.sizeOf130
  v97 := Tryz.zeroValue130
end Go.Proofs.YtbeodechhneeeaaGreatDoor


set_option linter.unusedVariables false
set_option linter.unusedSimpArgs false
set_option maxRecDepth 100000
namespace Go.Proofs.YtbeodechhneeeaaGreatDoor
open Go.Shelf Go.RowKit Go.Lib Go.Sort

theorem cs9_flat : ∀ l : List O, cs9 l = l.flatMap oc
  | [] => rfl
  | x :: l => by show oc x ++ cs9 l = _; rw [cs9_flat l]; rfl
theorem stable_own (w : World) (B : Nat) (v : Value) (l : List O) (h : w.ownsRow B 33 9 v l.length (cs9 l)) (hl : l.length ≤ 79) :
    Calls Tryz.prog 96 #[v, .int .i64 (l.length : Int), .func (.func 71) #[] #[]] w fun e w' => e = .returned (.tuple #[]) ∧ w'.ownsRow B 33 9 v (srtO l).length (cs9 (srtO l)) ∧ w.grownBy w' v.ownBlock := by
  rcases h.2 with ⟨rfl, h0⟩ | ⟨g, cap, cur, rfl, hB, hb, h1, h2, h3, h4⟩
  · have hn : l = [] := List.eq_nil_of_length_eq_zero h0
    subst hn
    refine (stable_none lsO (.slice none 0 0) (.func (.func 71) #[] #[]) w).mono ?_
    rintro e w' ⟨rfl, rfl⟩
    exact ⟨rfl, h, World.grownBy.mk rfl rfl rfl (Nat.le_refl _) (fun _ _ _ => rfl)⟩
  · have eg : ∀ args w, (callFunc 71 args).run Tryz.prog w = .ok (.enter 71 args) w := enters_of Tryz.func71 (by kernel_rfl) rfl
    have hg : g < w.heap.size := lt_of_block hb
    rw [cs9_flat] at h4
    have hH := holdsK_block (enc := oc) oc_len (by omega) hb h4
    have R : RowK oc 9 w g 0 l.toArray := ⟨oc_len, oc_one, hH, hg⟩
    have hcon := stable_any lsO 9 Tryz.isAgg33 Tryz.sizeOf33 oc 71 g 0 cap l.toArray w R cfO eg (fun _ _ _ _ x y => compare_exact x y _) ltOk l.toArray w rfl (SWK.start hH) (by simpa using hl)
    rw [show l.toArray.size = l.length from by simp] at hcon
    refine hcon.mono ?_
    rintro e w' ⟨rfl, r, hk, hs, hS⟩
    obtain ⟨l', rfl⟩ : ∃ l' : List O, r = l'.toArray := ⟨r.toList, by simp⟩
    obtain rfl : l' = srtO l := srt_eq hk hs
    obtain ⟨m, os, rfl⟩ := hS
    have hlen := srtO_len l
    exact ⟨rfl, ⟨cs9_length _, .inr ⟨g, cap, _, by rw [hlen], hB, heapK _ hb, by omega, h2, by simp [putCells, h3], by rw [cs9_flat]; exact takeK oc_len (by omega) cur _ (by rw [h3, hlen]; exact Nat.mul_le_mul_right 9 h1)⟩⟩, grownK _⟩
set_option maxHeartbeats 1600000 in
theorem sort68 (w : World) (B : Nat) (v : Value) (l : List O) (h : w.ownsRow B 33 9 v l.length (cs9 l)) (hl : l.length ≤ 79) :
    Calls Tryz.prog 70 #[v, .func (.func 71) #[] #[]] w fun e w' => e = .returned (.tuple #[]) ∧ w'.ownsRow B 33 9 v (srtO l).length (cs9 (srtO l)) ∧ w.grownBy w' v.ownBlock := by
  have S := Lib.hid (stable_own w B v l h hl)
  obtain ⟨ra, rc, rfl⟩ := Ve.own_shape h
  clear h
  go_enter Tryz.func70, Tryz.ntmps70
  go_wp2_with fail
  refine S.out.mono ?_
  rintro e w1 ⟨rfl, ho, hg⟩
  go_wp2
  go_end0
  exact ⟨rfl, ho, hg⟩
theorem own_empty (w : World) (B : Nat) (e : TypeId) (k : Nat) (hB : B ≤ w.heap.size) : (w.alloc (.cells #[] e)).ownsRow B e k (.slice (some ⟨w.heap.size, 0, none⟩) 0 0) 0 [] :=
  ⟨by simp, .inr ⟨w.heap.size, 0, #[], rfl, hB, heap_alloc_new w _, Nat.le_refl _, Nat.zero_le _, by simp, by simp⟩⟩
set_option maxHeartbeats 1600000 in
theorem clone_ops (w : World) (v : Value) (l : List O) (h : OLies w v l) (hl : l.length ≤ 1000) :
    Calls Tryz.prog 69 #[v] w fun e w' => ∃ r, e = .returned r ∧ w'.ownsRow w.heap.size 33 9 r l.length (cs9 l) ∧ Below w.heap.size w w' := by
  obtain ⟨i0, hi, hz0, hz1, hz2⟩ := info_parts info25
  have H := Lib.hid h
  obtain ⟨ao, cap, rfl, hn, hmx, h0, hc⟩ := h
  clear hc
  cases ao with
  | none =>
    obtain ⟨rfl, rfl⟩ := h0 rfl
    have kc := fun W => Lib.run_eql_slice_nil (P := Tryz.prog) W 22 33 none 0 0 0 0 Tryz.u27
    go_enter Tryz.func69, Tryz.ntmps69
    go_wp2
    go_returns
    exact ⟨_, rfl, World.ownsRow_nil _ _ _ _, Below.refl _ _⟩
  | some b =>
    clear h0
    have kc := fun W => Lib.run_eql_slice_nil (P := Tryz.prog) W 22 33 (some b) l.length cap 0 0 Tryz.u27
    go_enter Tryz.func69, Tryz.ntmps69
    have hX := vstep w (.cells #[] 33)
    have HL := Lib.hid ((H.out.step hX).src)
    clear hX
    go_wp2_with (at_builtin; refine Wi.wpList_append_src_own rfl (.tmp 5) (.tmp 6) 22 22 rfl w.heap.size 33 i0 (oV O0) 9 80 Tryz.u27 hi hz0 hz1 hz2 rfl (by decide) _ 0 [] rfl (own_empty w _ 33 9 (Nat.le_refl _)) _ l.length (cs9 l) rfl HL.out (by unfold maxLen; omega) (by omega) (by simp) ?_; intro v1 w1 hown hgr hsp)
    go_returns
    rw [Nat.zero_add, List.nil_append] at hown
    exact ⟨_, rfl, hown, ((Below.refl w.heap.size w).alloc (Nat.le_refl _) (.cells #[] 33)).grown hgr (by simp) (fun k hk => by simp [Act.eval, Value.ownBlock] at hk; omega)⟩
set_option maxHeartbeats 1600000 in
theorem sorted_any (w : World) (v : Value) (l : List O) (h : OLies w v l) (hl : l.length ≤ 79) :
    Calls Tryz.prog 41 #[v] w fun e w' => ∃ r, e = .returned r ∧ w'.ownsRow w.heap.size 33 9 r (srtO l).length (cs9 (srtO l)) ∧ Below w.heap.size w w' := by
  have C := Lib.hid (clone_ops w v l h (by omega))
  obtain ⟨ao, cap, rfl⟩ := h.shape
  clear h
  go_enter Tryz.func41, Tryz.ntmps41
  go_wp2_with fail
  refine C.out.mono ?_
  rintro e w1 ⟨r, rfl, ho, hb1⟩
  have S := Lib.hid (sort68 w1 _ _ l ho hl)
  have FIN := Lib.hid (fun (w2 : World) (ho2 : w2.ownsRow w.heap.size 33 9 r (srtO l).length (cs9 (srtO l))) (hg : w1.grownBy w2 r.ownBlock) => show w2.ownsRow w.heap.size 33 9 r (srtO l).length (cs9 (srtO l)) ∧ Below w.heap.size w w2 from
    ⟨ho2, hb1.grown hg hb1.size (fun k hk => (ho.lt k hk).1)⟩)
  obtain ⟨ra, rc, rfl⟩ := Ve.own_shape ho
  clear ho hb1 C
  go_wp2_with fail
  refine S.out.mono ?_
  rintro e w2 ⟨rfl, ho2, hg⟩
  have F2 := Lib.hid (FIN.out w2 ho2 hg)
  clear ho2 hg S
  go_wp2
  go_returns
  exact ⟨_, rfl, F2.out⟩
end Go.Proofs.YtbeodechhneeeaaGreatDoor


