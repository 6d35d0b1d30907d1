/- Stable sorting: classes, rotations, the merge; plain. Of no program. -/
set_option linter.unusedVariables false
set_option linter.unusedSectionVars false
namespace Go.Proofs.YtifeakmbeaflgaaDoor
section
variable {α : Type}
/-- What is asked of 'less'. -/
structure LtOk (lt : α → α → Bool) : Prop where
  nt : ∀ x y z, lt x y = false → lt y z = false → lt x z = false
  as : ∀ x y, lt x y = true → lt y x = false
variable {lt : α → α → Bool}
theorem LtOk.ir (h : LtOk lt) (x : α) : lt x x = false := by
  cases e : lt x x with
  | false => rfl
  | true => have := h.as x x e; rw [e] at this; cases this
def eqv (lt : α → α → Bool) (z x : α) : Bool := !lt x z && !lt z x
theorem eqv_self (h : LtOk lt) (x : α) : eqv lt x x = true := by unfold eqv; rw [h.ir]; rfl
theorem eqv_parts {z x : α} (h : eqv lt z x = true) : lt x z = false ∧ lt z x = false := by
  unfold eqv at h
  cases h1 : lt x z <;> cases h2 : lt z x <;> simp_all
/-- Two blocks of which the one is strictly ahead may change places. -/
theorem strict_swap (h : LtOk lt) (A B : List α) (hs : ∀ x ∈ A, ∀ y ∈ B, lt y x = true) (z : α) : (A ++ B).filter (eqv lt z) = (B ++ A).filter (eqv lt z) := by
  rw [List.filter_append, List.filter_append]
  cases hA : A.filter (eqv lt z) with
  | nil => simp
  | cons x l =>
    have hx : x ∈ A.filter (eqv lt z) := by rw [hA]; exact List.mem_cons_self ..
    obtain ⟨hx1, hx2⟩ := List.mem_filter.1 hx
    have hB : B.filter (eqv lt z) = [] := by
      rw [List.filter_eq_nil_iff]
      intro y hy hyz
      have h1 := hs x hx1 y hy
      have h2 := h.nt y z x (eqv_parts hyz).1 (eqv_parts hx2).2
      rw [h1] at h2
      cases h2
    rw [hB]; simp
variable [Inhabited α]
def seg (d : Array α) (a b : Nat) : List α := (List.range' a (b - a)).map (fun i => d[i]!)
theorem seg_split (d : Array α) {a c b : Nat} (h1 : a ≤ c) (h2 : c ≤ b) : seg d a b = seg d a c ++ seg d c b := by
  unfold seg
  rw [← List.map_append, show b - a = (c - a) + (b - c) by omega]
  congr 1
  have := List.range'_append_1 (s := a) (m := c - a) (n := b - c)
  rw [show a + (c - a) = c by omega] at this
  exact this.symm
theorem seg_shift (d r : Array α) (a b a' b' : Nat) (hl : b - a = b' - a') (h : ∀ i, i < b - a → d[a + i]! = r[a' + i]!) : seg d a b = seg r a' b' := by
  apply List.ext_getElem?
  intro i
  unfold seg
  rw [List.getElem?_map, List.getElem?_map]
  by_cases hi : i < b - a
  · rw [List.getElem?_range' (by omega), List.getElem?_range' (by omega)]
    simp only [Option.map_some, Nat.one_mul]
    rw [h i hi]
  · rw [List.getElem?_eq_none (by simp; omega), List.getElem?_eq_none (by simp; omega)]
    rfl
theorem seg_mem {d : Array α} {a b : Nat} {x : α} : x ∈ seg d a b ↔ ∃ i, a ≤ i ∧ i < b ∧ d[i]! = x := by
  unfold seg
  rw [List.mem_map]
  constructor
  · rintro ⟨i, hi, e⟩
    rw [List.mem_range'_1] at hi
    exact ⟨i, by omega, by omega, e⟩
  · rintro ⟨i, h1, h2, e⟩
    exact ⟨i, by rw [List.mem_range'_1]; omega, e⟩
def cls (lt : α → α → Bool) (d : Array α) (a b : Nat) (z : α) : List α := (seg d a b).filter (eqv lt z)
theorem cls_split (d : Array α) {a c b : Nat} (h1 : a ≤ c) (h2 : c ≤ b) (z : α) : cls lt d a b z = cls lt d a c z ++ cls lt d c b z := by
  unfold cls
  rw [seg_split d h1 h2, List.filter_append]
def OutS (d r : Array α) (a b : Nat) : Prop := r.size = d.size ∧ ∀ x, x < a ∨ b ≤ x → r[x]! = d[x]!
def SrtS (lt : α → α → Bool) (d : Array α) (a b : Nat) : Prop := ∀ x y, a ≤ x → x < y → y < b → lt d[y]! d[x]! = false
def SMS (lt : α → α → Bool) (d r : Array α) (a b : Nat) : Prop := OutS d r a b ∧ SrtS lt r a b ∧ ∀ z, cls lt r a b z = cls lt d a b z
def ROTS (d r : Array α) (a m b : Nat) : Prop := OutS d r a b ∧ (∀ x, a ≤ x → x < a + (b - m) → r[x]! = d[x + (m - a)]!) ∧ (∀ x, a + (b - m) ≤ x → x < b → r[x]! = d[x - (b - m)]!)
def SRS (d r : Array α) (a b n : Nat) : Prop := r.size = d.size ∧ (∀ x, a ≤ x → x < a + n → r[x]! = d[x + (b - a)]!) ∧ (∀ x, b ≤ x → x < b + n → r[x]! = d[x - (b - a)]!) ∧ (∀ x, (x < a ∨ a + n ≤ x) → (x < b ∨ b + n ≤ x) → r[x]! = d[x]!)
theorem cls_same {d r : Array α} {a b : Nat} (h : ∀ x, a ≤ x → x < b → r[x]! = d[x]!) (z : α) : cls lt r a b z = cls lt d a b z := by
  unfold cls
  rw [seg_shift r d a b a b rfl (fun i hi => h _ (by omega) (by omega))]
theorem OutS.refl (d : Array α) (a b : Nat) : OutS d d a b := ⟨rfl, fun _ _ => rfl⟩
theorem OutS.trans {d r s : Array α} {a b a' b' : Nat} (h : OutS d r a b) (h2 : OutS r s a' b') (h3 : a ≤ a') (h4 : b' ≤ b) : OutS d s a b := ⟨h2.1.trans h.1, fun x hx => (h2.2 x (by omega)).trans (h.2 x hx)⟩
theorem OutS.wide {d r : Array α} {a b a' b' : Nat} (h : OutS d r a b) (h3 : a' ≤ a) (h4 : b ≤ b') : OutS d r a' b' := ⟨h.1, fun x hx => h.2 x (by omega)⟩
theorem SrtS.sub {d : Array α} {a b a' b' : Nat} (h : SrtS lt d a b) (h1 : a ≤ a') (h2 : b' ≤ b) : SrtS lt d a' b' := fun x y hx hy hb => h x y (by omega) hy (by omega)
theorem SrtS.same {d r : Array α} {a b : Nat} (h : SrtS lt d a b) (he : ∀ x, a ≤ x → x < b → r[x]! = d[x]!) : SrtS lt r a b := fun x y hx hy hb => by
  rw [he x hx (by omega), he y (by omega) hb]; exact h x y hx hy hb
theorem cls_mem (hl : LtOk lt) {d r : Array α} {a b : Nat} (h : ∀ z, cls lt r a b z = cls lt d a b z) {x : Nat} (h1 : a ≤ x) (h2 : x < b) : ∃ y, a ≤ y ∧ y < b ∧ r[x]! = d[y]! := by
  have hx : r[x]! ∈ cls lt r a b r[x]! := List.mem_filter.2 ⟨seg_mem.2 ⟨x, h1, h2, rfl⟩, eqv_self hl _⟩
  rw [h] at hx
  obtain ⟨y, hy1, hy2, e⟩ := seg_mem.1 (List.mem_filter.1 hx).1
  exact ⟨y, hy1, hy2, e.symm⟩
theorem rot_seg {d r : Array α} {a m b : Nat} (h : ROTS d r a m b) (h1 : a ≤ m) (h2 : m ≤ b) : seg r a b = seg d m b ++ seg d a m := by
  rw [seg_split r (c := a + (b - m)) (by omega) (by omega)]
  congr 1
  · exact seg_shift r d _ _ _ _ (by omega) (fun i hi => by rw [h.2.1 (a + i) (by omega) (by omega)]; congr 1; omega)
  · exact seg_shift r d _ _ _ _ (by omega) (fun i hi => by rw [h.2.2 (a + (b - m) + i) (by omega) (by omega)]; congr 1; omega)
theorem rot_cls (hl : LtOk lt) {d r : Array α} {a m b : Nat} (h : ROTS d r a m b) (h1 : a ≤ m) (h2 : m ≤ b) (hs : ∀ x y, a ≤ x → x < m → m ≤ y → y < b → lt d[y]! d[x]! = true) (z : α) : cls lt r a b z = cls lt d a b z := by
  unfold cls
  rw [rot_seg h h1 h2, seg_split d h1 h2]
  refine (strict_swap hl _ _ (fun x hx y hy => ?_) z).symm
  obtain ⟨i, i1, i2, rfl⟩ := seg_mem.1 hx
  obtain ⟨j, j1, j2, rfl⟩ := seg_mem.1 hy
  exact hs i j i1 i2 j1 j2
/-- A swap of two ranges, and a rotation of what is left. -/
theorem rot_step_gt {d d' r : Array α} {a m b : Nat} (h1 : a ≤ m) (h2 : m ≤ b) (hgt : b - m < m - a) (hs : SRS d d' a m (b - m)) (hr : ROTS d' r (a + (b - m)) m b) : ROTS d r a m b := by
  obtain ⟨s0, s1, s2, s3⟩ := hs
  obtain ⟨⟨r0, r1⟩, r2, r3⟩ := hr
  refine ⟨⟨r0.trans s0, fun x hx => ?_⟩, fun x x1 x2 => ?_, fun x x1 x2 => ?_⟩
  · rw [r1 x (by omega), s3 x (by omega) (by omega)]
  · rw [r1 x (by omega), s1 x x1 x2]
  · by_cases hc : x < a + (b - m) + (b - m)
    · rw [r2 x (by omega) hc]
      by_cases hc2 : x + (m - (a + (b - m))) < m
      · omega
      · rw [s2 _ (by omega) (by omega)]; congr 1; omega
    · rw [r3 x (by omega) x2, s3 _ (by omega) (by omega)]
theorem rot_step_lt {d d' r : Array α} {a m b : Nat} (h1 : a ≤ m) (h2 : m ≤ b) (hlt : m - a < b - m) (hs : SRS d d' a (b - (m - a)) (m - a)) (hr : ROTS d' r a m (b - (m - a))) : ROTS d r a m b := by
  obtain ⟨s0, s1, s2, s3⟩ := hs
  obtain ⟨⟨r0, r1⟩, r2, r3⟩ := hr
  refine ⟨⟨r0.trans s0, fun x hx => ?_⟩, fun x x1 x2 => ?_, fun x x1 x2 => ?_⟩
  · rw [r1 x (by omega), s3 x (by omega) (by omega)]
  · by_cases hc : x < a + (b - (m - a) - m)
    · rw [r2 x x1 hc, s3 _ (by omega) (by omega)]
    · rw [r3 x (by omega) (by omega), s1 _ (by omega) (by omega)]; congr 1; omega
  · rw [r1 x (by omega), s2 x (by omega) (by omega)]; congr 1; omega
theorem rot_last {d r : Array α} {a m b : Nat} (h1 : a ≤ m) (h2 : m ≤ b) (he : m - a = b - m) (hs : SRS d r a m (m - a)) : ROTS d r a m b := by
  obtain ⟨s0, s1, s2, s3⟩ := hs
  refine ⟨⟨s0, fun x hx => s3 x (by omega) (by omega)⟩, fun x x1 x2 => s1 x x1 (by omega), fun x x1 x2 => ?_⟩
  rw [s2 x (by omega) (by omega)]; congr 1; omega
/-- The step of the merge. -/
theorem merge_step (hl : LtOk lt) {d r1 r2 r3 : Array α} {a m b mid st en : Nat} (ha : a < m) (hb : m < b) (hX : SrtS lt d a m) (hY : SrtS lt d m b)
    (he : st + en = mid + m) (s1 : a ≤ st) (s2 : st ≤ m) (e1 : m ≤ en) (e2 : en ≤ b) (c1 : st ≤ mid) (c2 : mid ≤ en)
    (f1 : a < st → en < b → lt d[en]! d[st - 1]! = false) (f2 : st < m → m < en → lt d[en - 1]! d[st]! = true)
    (h1 : (st < m ∧ m < en → ROTS d r1 st m en) ∧ (¬ (st < m ∧ m < en) → r1 = d))
    (h2 : (a < st ∧ st < mid → SMS lt r1 r2 a mid) ∧ (¬ (a < st ∧ st < mid) → r2 = r1))
    (h3 : (mid < en ∧ en < b → SMS lt r2 r3 mid b) ∧ (¬ (mid < en ∧ en < b) → r3 = r2)) : SMS lt d r3 a b := by
  have hsl : ∀ x y, st ≤ x → x < m → m ≤ y → y < en → lt d[y]! d[x]! = true := fun x y x1 x2 y1 y2 => by
    have q := f2 (by omega) (by omega)
    cases hc : lt d[y]! d[x]! with
    | true => rfl
    | false =>
      exfalso
      have k1 : lt d[en - 1]! d[y]! = false := by
        by_cases e : y = en - 1
        · subst e; exact hl.ir _
        · exact hY y (en - 1) y1 (by omega) (by omega)
      have k2 : lt d[x]! d[st]! = false := by
        by_cases e : x = st
        · subst e; exact hl.ir _
        · exact hX st x s1 (by omega) x2
      have k3 := hl.nt _ _ _ (hl.nt _ _ _ k1 hc) k2
      rw [q] at k3
      cases k3
  -- what the rotation leaves
  have hrot : OutS d r1 a b ∧ (∀ x, x < st → r1[x]! = d[x]!) ∧ (∀ x, st ≤ x → x < mid → r1[x]! = d[x + (m - st)]!) ∧ (∀ x, mid ≤ x → x < en → r1[x]! = d[x - (en - m)]!) ∧ (∀ x, en ≤ x → r1[x]! = d[x]!) ∧ ∀ z, cls lt r1 a b z = cls lt d a b z := by
    by_cases hr : st < m ∧ m < en
    · have R := h1.1 hr
      obtain ⟨o, q1, q2⟩ := R
      have RC := rot_cls hl (h1.1 hr) (by omega) (by omega) hsl
      refine ⟨o.wide s1 e2, fun x hx => o.2 x (.inl hx), fun x x1 x2 => q1 x x1 (by omega), fun x x1 x2 => q2 x (by omega) x2, fun x hx => o.2 x (.inr hx), fun z => ?_⟩
      rw [cls_split r1 (c := st) s1 (by omega), cls_split r1 (a := st) (c := en) (by omega) e2, cls_split d (c := st) s1 (by omega), cls_split d (a := st) (c := en) (by omega) e2, RC z,
        cls_same (fun x x1 x2 => o.2 x (.inl x2)) z, cls_same (fun x x1 x2 => o.2 x (.inr x1)) z]
    · have e := h1.2 hr
      subst e
      refine ⟨OutS.refl _ _ _, fun x _ => rfl, fun x x1 x2 => ?_, fun x x1 x2 => ?_, fun x _ => rfl, fun z => rfl⟩
      · congr 1; omega
      · congr 1; omega
  obtain ⟨o1, A, B, C, D, K⟩ := hrot
  have cross : ∀ x y, a ≤ x → x < mid → mid ≤ y → y < b → lt r1[y]! r1[x]! = false := fun x y x1 x2 y1 y2 => by
    by_cases hx : x < st
    · rw [A x hx]
      by_cases hy : y < en
      · rw [C y y1 hy]; exact hX x _ x1 (by omega) (by omega)
      · rw [D y (by omega)]
        have q := f1 (by omega) (by omega)
        have k1 : lt d[st - 1]! d[x]! = false := by
          by_cases e : x = st - 1
          · subst e; exact hl.ir _
          · exact hX x (st - 1) x1 (by omega) (by omega)
        have k2 : lt d[y]! d[en]! = false := by
          by_cases e : y = en
          · subst e; exact hl.ir _
          · exact hY en y e1 (by omega) y2
        exact hl.nt _ _ _ (hl.nt _ _ _ k2 q) k1
    · rw [B x (by omega) x2]
      by_cases hy : y < en
      · rw [C y y1 hy]; exact hl.as _ _ (hsl _ _ (by omega) (by omega) (by omega) (by omega))
      · rw [D y (by omega)]; exact hY _ y (by omega) (by omega) y2
  -- the lower half
  have L2 : OutS r1 r2 a mid ∧ SrtS lt r2 a mid ∧ ∀ z, cls lt r2 a mid z = cls lt r1 a mid z := by
    by_cases hr : a < st ∧ st < mid
    · exact h2.1 hr
    · have e := h2.2 hr
      subst e
      refine ⟨OutS.refl _ _ _, fun x y x1 xy y2 => ?_, fun z => rfl⟩
      by_cases hst : st ≤ a
      · rw [B x (by omega) (by omega), B y (by omega) y2]; exact hY _ _ (by omega) (by omega) (by omega)
      · rw [A x (by omega), A y (by omega)]; exact hX x y x1 xy (by omega)
  obtain ⟨o2, S2, K2⟩ := L2
  have U3 : OutS r2 r3 mid b ∧ SrtS lt r3 mid b ∧ ∀ z, cls lt r3 mid b z = cls lt r2 mid b z := by
    by_cases hr : mid < en ∧ en < b
    · exact h3.1 hr
    · have e := h3.2 hr
      subst e
      refine ⟨OutS.refl _ _ _, fun x y x1 xy y2 => ?_, fun z => rfl⟩
      rw [o2.2 x (by omega), o2.2 y (by omega)]
      by_cases hen : en ≤ mid
      · rw [D x (by omega), D y (by omega)]; exact hY x y (by omega) xy y2
      · rw [C x x1 (by omega), C y (by omega) (by omega)]; exact hX _ _ (by omega) (by omega) (by omega)
  obtain ⟨o3, S3, K3⟩ := U3
  have hmid : a ≤ mid ∧ mid ≤ b := by omega
  refine ⟨(o1.trans o2 (Nat.le_refl _) hmid.2).trans o3 hmid.1 (Nat.le_refl _), fun x y x1 xy y2 => ?_, fun z => ?_⟩
  · by_cases hy : y < mid
    · rw [o3.2 x (by omega), o3.2 y (by omega)]; exact S2 x y x1 xy hy
    · by_cases hx : mid ≤ x
      · exact S3 x y hx xy y2
      · rw [o3.2 x (by omega)]
        obtain ⟨x', x1', x2', ex⟩ := cls_mem hl K2 x1 (show x < mid by omega)
        obtain ⟨y', y1', y2', ey⟩ := cls_mem hl K3 (show mid ≤ y by omega) y2
        rw [ex, ey, o2.2 y' (by omega)]
        exact cross x' y' x1' x2' y1' y2'
  · rw [cls_split r3 hmid.1 hmid.2, K3 z, cls_same (fun x x1 x2 => o3.2 x (.inl x2)) z, K2 z, cls_same (d := r1) (fun x x1 x2 => o2.2 x (.inr x1)) z, ← cls_split r1 hmid.1 hmid.2, K z]
/-- An exchange of two neighbours, the later one strictly ahead. -/
def nsw (d r : Array α) (i : Nat) : Prop := r.size = d.size ∧ r[i]! = d[i + 1]! ∧ r[i + 1]! = d[i]! ∧ ∀ x, x ≠ i → x ≠ i + 1 → r[x]! = d[x]!
theorem nsw_cls (hl : LtOk lt) {d r : Array α} {i a b : Nat} (h : nsw d r i) (h1 : a ≤ i) (h2 : i + 2 ≤ b) (hs : lt d[i + 1]! d[i]! = true) (z : α) : cls lt r a b z = cls lt d a b z := by
  obtain ⟨_, p1, p2, p3⟩ := h
  have R : ROTS d r i (i + 1) (i + 2) := ⟨⟨by assumption, fun x hx => p3 x (by omega) (by omega)⟩, fun x x1 x2 => by
      rw [show x = i by omega, show i + (i + 1 - i) = i + 1 by omega]; exact p1, fun x x1 x2 => by
      rw [show x = i + 1 by omega, show i + 1 - (i + 2 - (i + 1)) = i by omega]; exact p2⟩
  have RC := rot_cls hl R (by omega) (by omega) (fun x y x1 x2 y1 y2 => by rw [show x = i by omega, show y = i + 1 by omega]; exact hs) z
  rw [cls_split r (c := i) h1 (by omega), cls_split r (a := i) (c := i + 2) (by omega) h2, cls_split d (c := i) h1 (by omega), cls_split d (a := i) (c := i + 2) (by omega) h2, RC,
    cls_same (fun x x1 x2 => p3 x (by omega) (by omega)) z, cls_same (fun x x1 x2 => p3 x (by omega) (by omega)) z]
/-- Two sorted lists with the same classes are one. -/
theorem stable_one (hl : LtOk lt) : ∀ (l m : List α), l.Pairwise (fun x y => lt y x = false) → m.Pairwise (fun x y => lt y x = false) → (∀ z, l.filter (eqv lt z) = m.filter (eqv lt z)) → l = m
  | [], m, _, _, h => by
    cases m with
    | nil => rfl
    | cons y m =>
      have := h y
      rw [List.filter_nil, List.filter_cons, eqv_self hl, if_pos rfl] at this
      cases this
  | x :: l, [], _, _, h => by
    have := h x
    rw [List.filter_nil, List.filter_cons, eqv_self hl, if_pos rfl] at this
    cases this
  | x :: l, y :: m, h1, h2, h => by
    obtain ⟨a1, b1⟩ := List.pairwise_cons.1 h1
    obtain ⟨a2, b2⟩ := List.pairwise_cons.1 h2
    -- both heads are of the least class
    have hx : ∃ x' ∈ (y :: m), eqv lt x x' = true := by
      have : x ∈ (y :: m).filter (eqv lt x) := by rw [← h x, List.filter_cons, eqv_self hl, if_pos rfl]; exact List.mem_cons_self ..
      exact ⟨x, (List.mem_filter.1 this).1, eqv_self hl x⟩
    have hy : ∃ y' ∈ (x :: l), eqv lt y y' = true := by
      have : y ∈ (x :: l).filter (eqv lt y) := by rw [h y, List.filter_cons, eqv_self hl, if_pos rfl]; exact List.mem_cons_self ..
      exact ⟨y, (List.mem_filter.1 this).1, eqv_self hl y⟩
    have k1 : lt x y = false := by
      obtain ⟨x', hm, e⟩ := hx
      have h0 : lt x' y = false := by
        rcases List.mem_cons.1 hm with rfl | hm
        · exact hl.ir _
        · exact a2 x' hm
      exact hl.nt _ _ _ (eqv_parts e).2 h0
    have k2 : lt y x = false := by
      obtain ⟨y', hm, e⟩ := hy
      have h0 : lt y' x = false := by
        rcases List.mem_cons.1 hm with rfl | hm
        · exact hl.ir _
        · exact a1 y' hm
      exact hl.nt _ _ _ (eqv_parts e).2 h0
    have e : x = y := by
      have := h x
      rw [List.filter_cons, eqv_self hl, if_pos rfl, List.filter_cons, show eqv lt x y = true by unfold eqv; rw [k1, k2]; rfl, if_pos rfl] at this
      injection this
    subst e
    congr 1
    refine stable_one hl l m b1 b2 (fun z => ?_)
    have := h z
    rw [List.filter_cons, List.filter_cons] at this
    split at this
    · injection this
    · exact this
theorem seg_pair {d : Array α} {a b : Nat} (h : SrtS lt d a b) : (seg d a b).Pairwise (fun x y => lt y x = false) := by
  unfold seg
  rw [List.pairwise_map]
  refine (List.pairwise_lt_range' (s := a) (n := b - a)).imp_of_mem (fun {x y} hx hy hxy => ?_)
  rw [List.mem_range'_1] at hx hy
  exact h x y hx.1 hxy (by omega)
/-- Within the insertion sort: all but the place j is in order. -/
structure INS (lt : α → α → Bool) (d dj : Array α) (a b i j : Nat) : Prop where
  out : OutS d dj a b
  cl : ∀ z, cls lt dj a b z = cls lt d a b z
  p1 : ∀ x y, a ≤ x → x < y → y ≤ i → x ≠ j → y ≠ j → lt dj[y]! dj[x]! = false
  p2 : ∀ y, j < y → y ≤ i → lt dj[y]! dj[j]! = false
theorem INS.start {d dk : Array α} {a b i : Nat} (o : OutS d dk a b) (c : ∀ z, cls lt dk a b z = cls lt d a b z) (s : SrtS lt dk a i) : INS lt d dk a b i i :=
  ⟨o, c, fun x y x1 xy y2 n1 n2 => s x y x1 xy (by omega), fun y h1 h2 => by omega⟩
theorem INS.stop (hl : LtOk lt) {d dj : Array α} {a b i j : Nat} (h : INS lt d dj a b i j) (hj : j ≤ i) (hs : j ≤ a ∨ lt dj[j]! dj[j - 1]! = false) (ha : a ≤ j) : SrtS lt dj a (i + 1) := fun x y x1 xy y2 => by
  by_cases ex : x = j
  · subst ex; exact h.p2 y xy (by omega)
  · by_cases ey : y = j
    · subst ey
      have q := hs.resolve_left (by omega)
      by_cases e : x = y - 1
      · subst e; exact q
      · exact hl.nt _ _ _ q (h.p1 x (y - 1) x1 (by omega) (by omega) ex (by omega))
    · exact h.p1 x y x1 xy (by omega) ex ey
theorem INS.next (hl : LtOk lt) {d dj dk : Array α} {a b i j : Nat} (h : INS lt d dj a b i (j + 1)) (hn : nsw dj dk j) (ha : a ≤ j) (hj : j + 1 ≤ i) (hb : i < b) (hlt : lt dj[j + 1]! dj[j]! = true) : INS lt d dk a b i j := by
  obtain ⟨n0, n1, n2, n3⟩ := hn
  refine ⟨⟨n0.trans h.out.1, fun x hx => by rw [n3 x (by omega) (by omega)]; exact h.out.2 x hx⟩, fun z => by rw [nsw_cls hl ⟨n0, n1, n2, n3⟩ ha (by omega) hlt z]; exact h.cl z, fun x y x1 xy y2 e1 e2 => ?_, fun y y1 y2 => ?_⟩
  · by_cases ex : x = j + 1
    · subst ex
      rw [n2, n3 y (by omega) (by omega)]
      exact h.p1 j y ha (by omega) y2 (by omega) (by omega)
    · by_cases ey : y = j + 1
      · subst ey
        rw [n2, n3 x e1 ex]
        exact h.p1 x j x1 (by omega) (by omega) ex (by omega)
      · rw [n3 x e1 ex, n3 y e2 ey]
        exact h.p1 x y x1 xy y2 ex ey
  · by_cases ey : y = j + 1
    · subst ey
      rw [n2, n1]
      exact hl.as _ _ hlt
    · rw [n3 y (by omega) ey, n1]
      exact h.p2 y (by omega) y2
theorem up_lt (hl : LtOk lt) {x y z : α} (h1 : lt y x = false) (h2 : lt y z = true) : lt x z = true := by
  cases h : lt x z with
  | true => rfl
  | false => have := hl.nt _ _ _ h1 h; rw [h2] at this; cases this
theorem up_lt' (hl : LtOk lt) {x y z : α} (h1 : lt x y = true) (h2 : lt z y = false) : lt x z = true := by
  cases h : lt x z with
  | true => rfl
  | false => have := hl.nt _ _ _ h h2; rw [h1] at this; cases this
theorem SrtS.le (hl : LtOk lt) {d : Array α} {a b x y : Nat} (h : SrtS lt d a b) (h1 : a ≤ x) (h2 : x ≤ y) (h3 : y < b) : lt d[y]! d[x]! = false := by
  by_cases e : x = y
  · subst e; exact hl.ir _
  · exact h x y h1 (by omega) h3
/-- One element moved to the right. -/
structure MVR (lt : α → α → Bool) (d dk : Array α) (a b k : Nat) : Prop where
  sz : dk.size = d.size
  lo : ∀ x, a ≤ x → x < k → dk[x]! = d[x + 1]!
  at_ : dk[k]! = d[a]!
  ot : ∀ x, x < a ∨ k < x → dk[x]! = d[x]!
  cl : ∀ z, cls lt dk a b z = cls lt d a b z
theorem MVR.start (d : Array α) (a b : Nat) : MVR lt d d a b a := ⟨rfl, fun x h1 h2 => by omega, rfl, fun x _ => rfl, fun z => rfl⟩
theorem MVR.next (hl : LtOk lt) {d dk dn : Array α} {a b k : Nat} (h : MVR lt d dk a b k) (hn : nsw dk dn k) (hk : a ≤ k) (hb : k + 2 ≤ b) (hlt : lt d[k + 1]! d[a]! = true) : MVR lt d dn a b (k + 1) := by
  have C := fun z => nsw_cls hl hn hk hb (by rw [h.at_, h.ot (k + 1) (by omega)]; exact hlt) z
  obtain ⟨n0, n1, n2, n3⟩ := hn
  refine ⟨n0.trans h.sz, fun x x1 x2 => ?_, by rw [n2]; exact h.at_, fun x hx => by rw [n3 x (by omega) (by omega)]; exact h.ot x (by omega), fun z => (C z).trans (h.cl z)⟩
  by_cases e : x = k
  · subst e; rw [n1]; exact h.ot _ (by omega)
  · rw [n3 x e (by omega)]; exact h.lo x x1 (by omega)
theorem MVR.fin (hl : LtOk lt) {d dk : Array α} {a m b i : Nat} (h : MVR lt d dk a b (i - 1)) (hm : m = a + 1) (h1 : m ≤ i) (h2 : i ≤ b) (hY : SrtS lt d m b) (f1 : ∀ x, m ≤ x → x < i → lt d[x]! d[a]! = true) (f2 : ∀ x, i ≤ x → x < b → lt d[x]! d[a]! = false) : SMS lt d dk a b := by
  refine ⟨⟨h.sz, fun x hx => h.ot x (by omega)⟩, fun x y x1 xy y2 => ?_, h.cl⟩
  by_cases hy : y < i - 1
  · rw [h.lo x x1 (by omega), h.lo y (by omega) hy]; exact hY _ _ (by omega) (by omega) (by omega)
  · by_cases ey : y = i - 1
    · subst ey
      rw [h.at_, h.lo x x1 xy]; exact hl.as _ _ (f1 _ (by omega) (by omega))
    · rw [h.ot y (by omega)]
      by_cases hx : x < i - 1
      · rw [h.lo x x1 hx]; exact hY _ _ (by omega) (by omega) y2
      · by_cases ex : x = i - 1
        · subst ex; rw [h.at_]; exact f2 y (by omega) y2
        · rw [h.ot x (by omega)]; exact hY x y (by omega) xy y2
/-- One element moved to the left. -/
structure MVL (lt : α → α → Bool) (d dk : Array α) (a m k : Nat) : Prop where
  sz : dk.size = d.size
  hi : ∀ x, k < x → x ≤ m → dk[x]! = d[x - 1]!
  at_ : dk[k]! = d[m]!
  ot : ∀ x, x < k ∨ m < x → dk[x]! = d[x]!
  cl : ∀ z, cls lt dk a (m + 1) z = cls lt d a (m + 1) z
theorem MVL.start (d : Array α) (a m : Nat) : MVL lt d d a m m := ⟨rfl, fun x h1 h2 => by omega, rfl, fun x _ => rfl, fun z => rfl⟩
theorem MVL.next (hl : LtOk lt) {d dk dn : Array α} {a m k : Nat} (h : MVL lt d dk a m (k + 1)) (hn : nsw dk dn k) (hk : a ≤ k) (hb : k + 1 ≤ m) (hlt : lt d[m]! d[k]! = true) : MVL lt d dn a m k := by
  have C := fun z => nsw_cls hl hn hk (show k + 2 ≤ m + 1 by omega) (by rw [h.at_, h.ot k (by omega)]; exact hlt) z
  obtain ⟨n0, n1, n2, n3⟩ := hn
  refine ⟨n0.trans h.sz, fun x x1 x2 => ?_, by rw [n1]; exact h.at_, fun x hx => by rw [n3 x (by omega) (by omega)]; exact h.ot x (by omega), fun z => (C z).trans (h.cl z)⟩
  by_cases e : x = k + 1
  · subst e; rw [n2]; exact h.ot _ (by omega)
  · rw [n3 x (by omega) e]; exact h.hi x (by omega) x2
theorem MVL.fin (hl : LtOk lt) {d dk : Array α} {a m i : Nat} (h : MVL lt d dk a m i) (h1 : a ≤ i) (h2 : i ≤ m) (hX : SrtS lt d a m) (f1 : ∀ x, a ≤ x → x < i → lt d[m]! d[x]! = false) (f2 : ∀ x, i ≤ x → x < m → lt d[m]! d[x]! = true) : SMS lt d dk a (m + 1) := by
  refine ⟨⟨h.sz, fun x hx => h.ot x (by omega)⟩, fun x y x1 xy y2 => ?_, h.cl⟩
  by_cases hy : y < i
  · rw [h.ot x (by omega), h.ot y (by omega)]; exact hX x y x1 xy (by omega)
  · by_cases ey : y = i
    · subst ey
      rw [h.at_, h.ot x (by omega)]; exact f1 x x1 xy
    · rw [h.hi y (by omega) (by omega)]
      by_cases hx : x < i
      · rw [h.ot x (by omega)]; exact hX _ _ x1 (by omega) (by omega)
      · by_cases ex : x = i
        · subst ex; rw [h.at_]; exact hl.as _ _ (f2 _ (by omega) (by omega))
        · rw [h.hi x (by omega) (by omega)]; exact hX _ _ (by omega) (by omega) (by omega)
end
end Go.Proofs.YtifeakmbeaflgaaDoor
