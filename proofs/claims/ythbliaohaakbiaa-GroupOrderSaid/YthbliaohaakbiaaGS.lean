/- Items, sorted by their nodes; groups, sorted. -/
import Derived.Test.YthbliaohaakbiaaGD
import Derived.Test.YthbliaohaakbiaaShelf
import Derived.Test.YthbliaohaakbiaaSrtK
import Derived.Shelf.SlSortCmp.NoneTotal
set_option linter.unusedVariables false
set_option linter.unusedSimpArgs false
set_option maxRecDepth 100000
namespace Go.Proofs.Ythbliaohaakbiaa
open Go.RowKit Go.Sort Go.Shelf

def ndI (x : It) : Sp := (x.t, x.r)
def cmpIt (x y : It) : Int := cmpS (ndI x) (ndI y)
theorem lt_cmpIt (x y : It) : ltOf cmpIt x y = ltP (ndI x) (ndI y) := cmpS_lt _ _
theorem swoI : SWO (ltOf cmpIt) where
  irrefl x := by rw [lt_cmpIt]; exact ltP_irr _
  trans x y z h1 h2 := by rw [lt_cmpIt] at *; exact ltP_tr h1 h2
  ntrans x y z h1 h2 := by
    rw [lt_cmpIt] at *
    cases h : ltP (ndI x) (ndI z) with
    | false => rfl
    | true =>
      have a : ¬ _ := fun k => by rw [(ltP_iff (ndI x) (ndI y)).2 k] at h1; cases h1
      have b : ¬ _ := fun k => by rw [(ltP_iff (ndI y) (ndI z)).2 k] at h2; cases h2
      rw [ltP_iff] at h
      omega
instance : Inhabited It := ⟨⟨0, 0, ⟨#[]⟩, false⟩⟩
theorem sortI_own (w : World) (B : Nat) (v : Value) (l : List It) (h : w.ownsRow B 41 4 v l.length (l.flatMap encI)) (hl : l.length < 1000000) :
    Calls Try.prog 20 #[v, .func (.func 21) #[] #[]] w fun e w' => e = .returned (.tuple #[]) ∧ ∃ l' : List It, l'.Perm l ∧ l'.Pairwise (fun x y => ltP (ndI y) (ndI x) = false) ∧ w'.ownsRow B 41 4 v l.length (l'.flatMap encI) ∧ w.grownBy w' v.ownBlock := by
  rcases h.2 with ⟨rfl, h0⟩ | ⟨g, cap, cur, rfl, hB, hb, h1, h2, h3, h4⟩
  · have hn : l = [] := List.eq_nil_of_length_eq_zero h0
    subst hn
    refine (AnyF.slices_SortFunc_none Try.sort_20 none 0 (.func (.func 21) #[] #[]) w).mono ?_
    rintro e w' ⟨rfl, rfl⟩
    exact ⟨rfl, [], .refl _, List.Pairwise.nil, h, World.grownBy.mk rfl rfl rfl (Nat.le_refl _) (fun _ _ _ => rfl)⟩
  · have eg : ∀ args w, (callFunc 21 args).run Try.prog w = .ok (.enter 21 args) w := enters_of Try.func21 (by kernel_rfl) rfl
    have hg : g < w.heap.size := lt_of_block hb
    have hH := holdsK_block (enc := encI) encI_len (by omega) hb h4
    have hcon := AnyQ.slices_SortFunc Try.sort_20 4 Try.isAgg41 Try.sizeOf41 encI encI_len encI_one cmpIt swoI 21 #[] g 0 cap l.toArray w eg (fun _ _ _ _ x y => cmp_it _ x y) hH hg (by simp; omega)
    rw [show l.toArray.size = l.length from by simp] at hcon
    refine hcon.mono ?_
    rintro e w' ⟨rfl, d', n, os, hp, hs, rfl⟩
    obtain ⟨l', rfl⟩ : ∃ l' : List It, d' = l'.toArray := ⟨d'.toList, by simp⟩
    have hlen : l'.length = l.length := by have := hp.1; simpa using this
    have hperm : l'.Perm l := by
      have := hp.2.2
      rw [Array.toList_extract, Array.toList_extract] at this
      simp [List.extract_eq_take_drop, ← hlen] at this
      rwa [List.take_of_length_le (by omega)] at this
    refine ⟨rfl, l', hperm, ?_, ⟨by rw [flat_len encI_len, hlen], .inr ⟨g, cap, _, rfl, hB, heapK l'.toArray hb, h1, h2, by simp [putCells, h3], by rw [← hlen]; exact takeK encI_len (by omega) cur l' (by rw [h3, hlen]; exact Nat.mul_le_mul_right 4 h1)⟩⟩, grownK _⟩
    rw [List.pairwise_iff_getElem]
    intro i j hi hj hij
    have := hs i j (Nat.zero_le _) hij (by omega)
    rw [lt_cmpIt] at this
    simpa [hi, hj] using this
/-! ### groups -/
/-- A group, its nodes as a slice, and as a list. -/
structure Gn where
  n : ByteArray
  d : Bool
  a : Option Addr
  c : Nat
  l : List Sp
def Gn.v (x : Gn) : Value := .slice x.a x.l.length x.c
def encN (x : Gn) : List Value := [.string x.n, .bool x.d, x.v]
theorem encN_len (x : Gn) : (encN x).length = 3 := rfl
theorem encN_one (x : Gn) : ∀ v ∈ encN x, v.oneCell' = true := by
  intro v hv
  simp [encN] at hv
  rcases hv with rfl | rfl | rfl <;> rfl
def Gn.key (x : Gn) : ByteArray × List Sp := (x.n, x.l)
/-- Is a group ahead? -/
def ltG (a b : ByteArray × List Sp) : Bool := if a.1 = b.1 then ltP (h1 a.2) (h1 b.2) else ltB a.1 b.1
theorem cmpG_lt (a b : ByteArray × List Sp) : decide (cmpG a b < 0) = ltG a b := by
  unfold cmpG ltG
  by_cases h : a.1 = b.1
  · rw [if_pos h, if_pos h]; exact cmpS_lt _ _
  · rw [if_neg h, if_neg h]
    unfold cmpT
    cases hl : ltB a.1 b.1 with
    | true => simp
    | false => simp [h]
theorem ltG_irr (a : ByteArray × List Sp) : ltG a a = false := by unfold ltG; rw [if_pos rfl]; exact ltP_irr _
theorem ltG_tr {a b c : ByteArray × List Sp} (h : ltG a b = true) (k : ltG b c = true) : ltG a c = true := by
  unfold ltG at *
  by_cases h1 : a.1 = b.1
  · by_cases h2 : b.1 = c.1
    · rw [if_pos h1] at h; rw [if_pos h2] at k; rw [if_pos (h1.trans h2)]; exact ltP_tr h k
    · rw [if_neg h2] at k; rw [if_neg (fun e => h2 (h1.symm.trans e)), h1]; exact k
  · by_cases h2 : b.1 = c.1
    · rw [if_neg h1] at h; rw [if_neg (fun e => h1 (e.trans h2.symm)), ← h2]; exact h
    · rw [if_neg h1] at h
      rw [if_neg h2] at k
      have := ltB_trans h k
      rw [if_neg (fun e => by rw [e, ltB_irrefl] at this; cases this)]
      exact this
/-- Two keys of which none is ahead are one. -/
theorem ltG_tot {a b : ByteArray × List Sp} (h : ltG a b = false) (k : ltG b a = false) : a.1 = b.1 ∧ h1 a.2 = h1 b.2 := by
  unfold ltG at *
  by_cases e : a.1 = b.1
  · rw [if_pos e] at h; rw [if_pos e.symm] at k
    exact ⟨e, ltP_tot h k⟩
  · rw [if_neg e] at h; rw [if_neg (fun q => e q.symm)] at k
    exact absurd (ltB_total h k) e
theorem ltG_ntr {a b c : ByteArray × List Sp} (h : ltG a b = false) (k : ltG b c = false) : ltG a c = false := by
  cases q : ltG a c with
  | false => rfl
  | true =>
    cases r : ltG b a with
    | true => rw [ltG_tr r q] at k; cases k
    | false =>
      obtain ⟨e1, e2⟩ := ltG_tot h r
      have : ltG b c = ltG a c := by unfold ltG; rw [e1, e2]
      rw [this, q] at k
      cases k
/-- A slice of stamps that lies in no block g. -/
def Off (w : World) (g : Nat) (v : Value) (l : List Sp) : Prop := LiesK encS 2 w v l ∧ ∀ a n c, v = .slice (some a) n c → a.block ≠ g
theorem LiesK.other {w w' : World} {g : Nat} {v : Value} {l : List Sp} (h : LiesK encS 2 w v l) (ho : ∀ a n c, v = .slice (some a) n c → a.block ≠ g) (hg : w.grownBy w' (some g)) : LiesK encS 2 w' v l := by
  obtain ⟨ao, cap, rfl, hn, hm, h0, hc⟩ := h
  refine ⟨ao, cap, rfl, hn, hm, h0, fun b hbb hne => ?_⟩
  obtain ⟨k, o, rfl, hk, hcc⟩ := hc b hbb hne
  subst hbb
  have hne := ho _ _ _ rfl
  refine ⟨k, o, rfl, Nat.lt_of_lt_of_le hk hg.size, fun j p hj i u hi => ?_⟩
  have e := hg.block k hk (fun e => hne (by injection e))
  have := hcc j p hj i u hi
  unfold World.cell? at this ⊢
  dsimp only at this ⊢
  rw [e]
  exact this
theorem Off.kept {w w' : World} {g : Nat} {v : Value} {l : List Sp} (h : Off w g v l) (hg : w.grownBy w' (some g)) : Off w' g v l := ⟨h.1.other h.2 hg, h.2⟩
theorem sortG_own (w : World) (B : Nat) (v : Value) (l : List Gn) (h : w.ownsRow B 32 3 v l.length (l.flatMap encN)) (hl : l.length < 1000000) (hnil : l = [] → v = .slice none 0 0) (hoff : ∀ x ∈ l, x.l ≠ [] ∧ LiesK encS 2 w x.v x.l ∧ ∀ g, v.ownBlock = some g → Off w g x.v x.l) :
    Calls Try.prog 23 #[v, .func (.func 11) #[] #[]] w fun e w' => e = .returned (.tuple #[]) ∧ ∃ l' : List Gn, l'.Perm l ∧ l'.Pairwise (fun x y => ltG y.key x.key = false) ∧ w'.ownsRow B 32 3 v l.length (l'.flatMap encN) ∧ w.grownBy w' v.ownBlock := by
  rcases h.2 with ⟨rfl, h0⟩ | ⟨g, cap, cur, rfl, hB, hb, h1, h2, h3, h4⟩
  · have hn : l = [] := List.eq_nil_of_length_eq_zero h0
    subst hn
    refine (AnyF.slices_SortFunc_none Try.sort_23 none 0 (.func (.func 11) #[] #[]) w).mono ?_
    rintro e w' ⟨rfl, rfl⟩
    exact ⟨rfl, [], .refl _, List.Pairwise.nil, h, World.grownBy.mk rfl rfl rfl (Nat.le_refl _) (fun _ _ _ => rfl)⟩
  · have eg : ∀ args w, (callFunc 11 args).run Try.prog w = .ok (.enter 11 args) w := enters_of Try.func11 (by kernel_rfl) rfl
    have hg : g < w.heap.size := lt_of_block hb
    have hoff : ∀ x ∈ l, x.l ≠ [] ∧ Off w g x.v x.l := fun x hx => ⟨(hoff x hx).1, (hoff x hx).2.2 g rfl⟩
    by_cases hl0 : l = []
    · have := hnil hl0
      cases this
    · obtain ⟨x0, hx0⟩ : ∃ x, x ∈ l := by cases l with | nil => exact absurd rfl hl0 | cons x r => exact ⟨x, List.mem_cons_self ..⟩
      let A := { x : Gn // x.l ≠ [] ∧ Off w g x.v x.l }
      letI : Inhabited A := ⟨⟨x0, hoff x0 hx0⟩⟩
      let encA : A → List Value := fun a => encN a.1
      have eA_len : ∀ a : A, (encA a).length = 3 := fun _ => rfl
      have eA_one : ∀ a : A, ∀ v ∈ encA a, v.oneCell' = true := by
        intro a v hv
        exact encN_one a.1 v hv
      let cf : A → A → Int := fun a b => cmpG a.1.key b.1.key
      have hlt : ∀ a b : A, ltOf cf a b = ltG a.1.key b.1.key := fun a b => cmpG_lt _ _
      have hO : SWO (ltOf cf) :=
        { irrefl := fun x => by rw [hlt]; exact ltG_irr _
          trans := fun x y z h1 h2 => by rw [hlt] at *; exact ltG_tr h1 h2
          ntrans := fun x y z h1 h2 => by rw [hlt] at *; exact ltG_ntr h1 h2 }
      obtain ⟨lA, hlA⟩ : ∃ lA : List A, lA.map Subtype.val = l := ⟨l.attachWith _ hoff, by simp⟩
      have hfl : ∀ m : List A, m.flatMap encA = (m.map Subtype.val).flatMap encN := fun m => by rw [List.flatMap_map]
      have hlen0 : lA.length = l.length := by rw [← hlA, List.length_map]
      have h4A : cur.toList.take (lA.length * 3) = lA.flatMap encA := by rw [hfl, hlA, hlen0]; exact h4
      have hH := holdsK_block (enc := encA) eA_len (by omega) hb h4A
      have hcon := AnyQ.slices_SortFunc Try.sort_23 3 Try.isAgg32 Try.sizeOf32 encA eA_len eA_one cf hO 11 #[] g 0 cap lA.toArray w eg (fun m os dk hs x y => by
        have hgr : w.grownBy (sortWorldK encA 3 w g 0 m dk os) (some g) := grownK (enc := encA) dk
        have a1 := x.2.2.kept hgr
        have a2 := y.2.2.kept hgr
        exact cmp_gr _ x.1.n x.1.d x.1.v x.1.l y.1.n y.1.d y.1.v y.1.l a1.1 x.2.1 a2.1 y.2.1) hH hg (by simp; omega)
      rw [show lA.toArray.size = l.length from by simp [hlen0]] at hcon
      refine hcon.mono ?_
      rintro e w' ⟨rfl, d', n, os, hp, hs, rfl⟩
      obtain ⟨l', rfl⟩ : ∃ l' : List A, d' = l'.toArray := ⟨d'.toList, by simp⟩
      have hlen : l'.length = l.length := by have := hp.1; simpa [hlen0] using this
      have hperm : l'.Perm lA := by
        have := hp.2.2
        rw [Array.toList_extract, Array.toList_extract] at this
        simp [List.extract_eq_take_drop, ← hlen] at this
        rwa [List.take_of_length_le (by omega)] at this
      have hpm : (l'.map Subtype.val).Perm l := by rw [← hlA]; exact hperm.map _
      refine ⟨rfl, l'.map Subtype.val, hpm, ?_, ⟨by rw [flat_len encN_len, hpm.length_eq], .inr ⟨g, cap, _, rfl, hB, heapK l'.toArray hb, h1, h2, by simp [putCells, h3], ?_⟩⟩, grownK _⟩
      · rw [List.pairwise_map, List.pairwise_iff_getElem]
        intro i j hi hj hij
        have := hs i j (Nat.zero_le _) hij (by omega)
        rw [hlt] at this
        simpa [hi, hj] using this
      · rw [← hfl, ← hlen]
        exact takeK (enc := encA) eA_len (by omega) cur l' (by rw [h3, hlen]; exact Nat.mul_le_mul_right 3 h1)
end Go.Proofs.Ythbliaohaakbiaa
