/- A law's calls; long; plain: who takes what is lacked. -/
import Derived.Test.YtgnnpfainoppeaaDoorHU
set_option linter.unusedVariables false
set_option linter.unusedSimpArgs false
set_option maxRecDepth 100000
namespace Go.Proofs.YtgnnpfainoppeaaDoor
open Go.RowKit
open Ve (zs zs_len vw LiesO Rg lackF LiesR)

/-- A call, as the law gives it. -/
structure Ac where
  kd : Int
  o : O
  va : Option Addr
  vn : Nat
  vc : Nat
  vl : List (Nat × Int)
def Ac.v (a : Ac) : Value := .slice a.va a.vn a.vc
def acC (a : Ac) : List Value := .int .i64 a.kd :: (oc a.o ++ [a.v])
def ALies (w : World) (v : Value) (l : List Ac) : Prop := ∃ ao cap, v = .slice ao l.length cap ∧ l.length ≤ 9223372036854775807 ∧ (ao = none → l = []) ∧
  (∀ b, ao = some b → l ≠ [] → ∃ g k, b = ⟨g, k, none⟩ ∧ g < w.heap.size ∧ ∀ (j : Nat) p, l[j]? = some p → ∀ i u, (acC p)[i]? = some u → w.cell? ⟨g, k + j * 11 + i, none⟩ = some u) ∧ ∀ p ∈ l, LiesO w p.v p.vl
theorem ALies.at {w w' : World} {ao : Option Addr} {n cap : Nat} {l : List Ac} (h : ALies w (.slice ao n cap) l) (hb : Below w.heap.size w w') {i : Nat} {p : Ac} (hp : l[i]? = some p) :
    ∃ g k, ao = some ⟨g, k, none⟩ ∧ w'.cell? ⟨g, k + i * 11, none⟩ = some (.int .i64 p.kd) ∧ (∀ j u, (oc p.o)[j]? = some u → w'.cell? ⟨g, k + i * 11 + 1 + j, none⟩ = some u) ∧ w'.cell? ⟨g, k + i * 11 + 10, none⟩ = some p.v := by
  obtain ⟨ao', cap', e, _, h1, h2, _⟩ := h
  injection e with e1 e2 e3
  subst e1
  cases ao with
  | none => rw [h1 rfl] at hp; cases hp
  | some b =>
    obtain ⟨g, k, rfl, hg, hc⟩ := h2 b rfl (by rintro rfl; cases hp)
    have hc' := fun j u hu => (hb.cell (p := ⟨g, k + i * 11 + j, none⟩) hg).trans (hc i p hp j u hu)
    refine ⟨g, k, rfl, hc' 0 _ rfl, fun j u hj => ?_, hc' 10 _ rfl⟩
    have hj9 : j < 9 := by have := (List.getElem?_eq_some_iff.1 hj).1; rwa [oc_len] at this
    have := hc' (1 + j) u (by unfold acC; rw [Nat.add_comm, List.getElem?_cons_succ, List.getElem?_append_left (by rw [oc_len]; exact hj9)]; exact hj)
    rwa [← Nat.add_assoc] at this
def longB (l : List Ac) : Bool := (l.take 40).any fun a => decide (300 < a.o.nm.size)
set_option maxHeartbeats 1600000 in
theorem long_any (w : World) (v : Value) (l : List Ac) (h : ALies w v l) : Calls Tryd.prog 7 #[v] w fun e w' => e = .returned (.bool (longB l)) ∧ w = w' := by
  have H := Lib.hid h
  have hl : l.length ≤ 9223372036854775807 := by obtain ⟨_, _, _, h, _⟩ := h; exact h
  obtain ⟨ao, cap, rfl⟩ : ∃ ao cap, v = .slice ao l.length cap := by obtain ⟨ao, cap, e, _⟩ := h; exact ⟨ao, cap, e⟩
  clear h
  go_enter Tryd.func7, Tryd.ntmps7
  go_wp2
  go_loop [3] (fun iv => ∃ i : Nat, iv = .int .i64 i ∧ i ≤ l.length ∧ i ≤ 40 ∧ Hid (((l.take i).any fun a => decide (300 < a.o.nm.size)) = false)) (fun iv => 40 - (intOf iv).toNat)
  case atStart => exact ⟨0, rfl, Nat.zero_le _, Nat.zero_le _, Lib.hid rfl⟩
  case round =>
    obtain ⟨i, rfl, hi, hi40, hF⟩ := hrel
    by_cases hlt : i < l.length ∧ i < 40
    · obtain ⟨h1, h2⟩ := hlt
      obtain ⟨p, hp⟩ : ∃ p, l[i]? = some p := ⟨_, List.getElem?_eq_getElem h1⟩
      obtain ⟨g, k, rfl, _, hc, _⟩ := H.out.at (Below.refl _ _) hp
      have d := hc 7 _ rfl
      rw [Nat.add_assoc, show 1 + 7 = 8 from rfl] at d
      have HN := Lib.hid (show ((l.take (i + 1)).any fun a => decide (300 < a.o.nm.size)) = decide (300 < p.o.nm.size) by
        rw [Ve.take_snoc' l i p hp, List.any_append, hF.out]; simp)
      have HT := Lib.hid (fun (hq : 300 < p.o.nm.size) => show longB l = true by
        unfold longB
        rw [List.any_eq_true]
        refine ⟨p, ?_, decide_eq_true hq⟩
        rw [List.mem_iff_getElem?]
        exact ⟨i, by rw [List.getElem?_take, if_pos h2, hp]⟩)
      clear hc hp hF
      by_cases hq : 300 < p.o.nm.size
      · have E := Lib.hid (HT.out hq)
        have hq2 : (300 : Int) < (p.o.nm.size : Int) := by omega
        go_wp2
        go_returns
        exact ⟨by rw [E.out]; rfl, rfl⟩
      · have hq2 : ¬ ((300 : Int) < (p.o.nm.size : Int)) := by omega
        have E := Lib.hid (show ((l.take (i + 1)).any fun a => decide (300 < a.o.nm.size)) = false by rw [HN.out]; exact decide_eq_false hq)
        go_wp2
        go_round
        case rel => exact ⟨i + 1, by go_num, by omega, by omega, E⟩
        case measure => simp [intOf]; omega
    · have E := Lib.hid (show longB l = false by
        have e : l.take 40 = l.take i := by
          by_cases h : i < l.length
          · rw [show i = 40 by omega]
          · rw [List.take_of_length_le (by omega), List.take_of_length_le (by omega)]
        unfold longB; rw [e]; exact hF.out)
      have hd : (¬ i < l.length) ∨ (i < l.length ∧ ¬ i < 40) := by
        by_cases h : i < l.length
        · exact .inr ⟨h, fun h2 => hlt ⟨h, h2⟩⟩
        · exact .inl h
      clear hlt hF
      rcases hd with hd | ⟨hd, hd2⟩
      all_goals
        go_wp2
        go_returns
        exact ⟨by rw [E.out]; rfl, rfl⟩
/-! ### plain -/
theorem snocRec {α : Type} {P : List α → Prop} (h0 : P []) (h1 : ∀ l x, P l → P (l ++ [x])) : ∀ l, P l := by
  intro l
  have : ∀ (n : Nat) (l : List α), l.length = n → P l := by
    intro n
    induction n with
    | zero => intro l hl; rw [List.eq_nil_of_length_eq_zero hl]; exact h0
    | succ n ih =>
      intro l hl
      have hne : l ≠ [] := by rintro rfl; cases hl
      rw [← List.dropLast_concat_getLast hne]
      exact h1 _ _ (ih _ (by rw [List.length_dropLast]; omega))
  exact this _ l rfl
noncomputable def runL (os : List O) : Nat → List O := os.foldl (fun L o => putL zs L o) nilL
theorem runL_snoc (os : List O) (o : O) : runL (os ++ [o]) = putL zs (runL os) o := by unfold runL; rw [List.foldl_append]; rfl
theorem runL_gd (os : List O) : Gd zs (runL os) os.length := by
  unfold runL
  have : ∀ (l : List O) (L : Nat → List O) (m : Nat), Gd zs L m → Gd zs (l.foldl (fun L o => putL zs L o) L) (m + l.length) := by
    intro l
    induction l with
    | nil => intro L m h; exact h
    | cons o l ih => intro L m h; rw [List.foldl_cons, List.length_cons, show m + (l.length + 1) = m + 1 + l.length by omega]; exact ih _ _ (put_gd h o)
  have h := this os nilL 0 (gd_nil zs_len right_zs)
  rwa [Nat.zero_add] at h
theorem putL_cases (bs : List Int) (L : Nat → List O) (o : O) : putL bs L o = L ∨ (putI bs L o = 0 ∧ putL bs L o = fup L o.r.toNat (L o.r.toNat ++ [o])) := by
  unfold putL
  by_cases h : putI bs L o = 0
  · rw [if_pos h]; exact .inr ⟨h, rfl⟩
  · rw [if_neg h]; exact .inl rfl
theorem putI_zero {bs : List Int} {L : Nat → List O} {o : O} (h : putI bs L o = 0) : rO o = true := by
  unfold putI at h
  cases hr : rO o with
  | true => rfl
  | false => rw [hr] at h; cases h
theorem putL_pre (bs : List Int) (L : Nat → List O) (o : O) (k : Nat) : L k <+: putL bs L o k := by
  rcases putL_cases bs L o with e | ⟨_, e⟩
  · rw [e]; exact List.prefix_refl _
  · rw [e]
    by_cases hk : k = o.r.toNat
    · subst hk; rw [fup_same]; exact List.prefix_append _ _
    · rw [fup_other _ _ _ _ hk]; exact List.prefix_refl _
theorem runL_pre (os : List O) : ∀ (qs : List O) (k : Nat), runL os k <+: runL (os ++ qs) k := by
  refine snocRec (fun k => by rw [List.append_nil]; exact List.prefix_refl _) (fun qs q ih k => ?_)
  rw [← List.append_assoc, runL_snoc]; exact (ih k).trans (putL_pre _ _ _ _)
theorem runL_rt : ∀ (os : List O), ∀ k, ∀ o ∈ runL os k, rO o = true := by
  refine snocRec (fun k o ho => by cases ho) (fun os q ih k o ho => ?_)
  rw [runL_snoc] at ho
  rcases putL_cases zs (runL os) q with e | ⟨h0, e⟩
  · rw [e] at ho; exact ih k o ho
  · rw [e] at ho
    by_cases hk : k = q.r.toNat
    · subst hk
      rw [fup_same] at ho
      rcases List.mem_append.1 ho with ho | ho
      · exact ih _ o ho
      · rw [List.mem_singleton.1 ho]; exact putI_zero h0
    · rw [fup_other _ _ _ _ hk] at ho; exact ih k o ho
theorem fup_len (L : Nat → List O) (i : Nat) (x : List O) : ∀ n, ((List.range n).flatMap (fup L i x)).length + (if i < n then (L i).length else 0) = ((List.range n).flatMap L).length + (if i < n then x.length else 0)
  | 0 => by simp
  | n + 1 => by
    have ih := fup_len L i x n
    rw [List.range_succ, List.flatMap_append, List.flatMap_append, List.length_append, List.length_append]
    simp only [List.flatMap_cons, List.flatMap_nil, List.append_nil]
    by_cases e : n = i
    · subst e
      rw [fup_same, if_pos (Nat.lt_succ_self _), if_pos (Nat.lt_succ_self _)]
      rw [if_neg (Nat.lt_irrefl _), if_neg (Nat.lt_irrefl _)] at ih
      omega
    · rw [fup_other _ _ _ _ e]
      by_cases h : i < n
      · rw [if_pos h, if_pos h] at ih
        rw [if_pos (by omega), if_pos (by omega)]
        omega
      · rw [if_neg h, if_neg h] at ih
        rw [if_neg (by omega), if_neg (by omega)]
        omega
theorem runL_len : ∀ (os : List O), (flat (runL os)).length ≤ os.length := by
  refine snocRec (by rw [show flat (runL []) = [] by show flat nilL = []; decide +kernel]; exact Nat.le_refl _) (fun os q ih => ?_)
  rw [runL_snoc, List.length_append, List.length_singleton]
  rcases putL_cases zs (runL os) q with e | ⟨_, e⟩
  · rw [e]; omega
  · rw [e]
    have h := fup_len (runL os) q.r.toNat (runL os q.r.toNat ++ [q]) 64
    unfold flat at ih ⊢
    by_cases hk : q.r.toNat < 64
    · rw [if_pos hk, if_pos hk, List.length_append, List.length_singleton] at h; omega
    · rw [if_neg hk, if_neg hk] at h; omega
/-- What the one has and the other one lacks. -/
def restL (A B : Nat → List O) (n : Nat) : List O := (List.range n).flatMap fun k => (A k).drop (B k).length
theorem rest_len (A B : Nat → List O) : ∀ n, (restL A B n).length ≤ ((List.range n).flatMap A).length
  | 0 => by simp [restL]
  | n + 1 => by
    have ih := rest_len A B n
    unfold restL at ih ⊢
    rw [List.range_succ, List.flatMap_append, List.flatMap_append, List.length_append, List.length_append]
    simp only [List.flatMap_cons, List.flatMap_nil, List.append_nil, List.length_drop]
    omega
theorem zs_get (i : Nat) (hi : i < 64) : zs[i]? = some 0 := by unfold zs; rw [List.getElem?_replicate, if_pos hi]
theorem kn_at (L : Nat → List O) (i : Nat) (hi : i < 64) : (kn zs L)[i]? = some ((L i).length : Int) := by
  rw [kn_get zs L i hi 0 (zs_get i hi), Int.zero_add]
theorem parts_lack {A B : Nat → List O} {m : Nat} (g : Gd zs A m) (hB : ∀ k, k < 64 → (B k).length ≤ m) (hm : m ≤ 1000) : ∀ n, n ≤ 64 → partsO A (lackF (kn zs B) (kn zs A) n) = restL A B n
  | 0, _ => rfl
  | n + 1, hn => by
    have ih := parts_lack g hB hm n (by omega)
    have e : lackF (kn zs B) (kn zs A) (n + 1) = lackF (kn zs B) (kn zs A) n ++ (if (kn zs B).getD n 0 < (kn zs A).getD n 0 then [((n : Int), wrap64 ((kn zs B).getD n 0 + 1), (kn zs A).getD n 0)] else []) := rfl
    rw [e, getD_some (kn_at A n (by omega)), getD_some (kn_at B n (by omega))]
    have e2 : restL A B (n + 1) = restL A B n ++ (A n).drop (B n).length := by
      unfold restL; rw [List.range_succ, List.flatMap_append]; simp
    rw [e2, ← ih]
    have hb := hB n (by omega)
    have ha := g.cnt n (by omega)
    by_cases h : ((B n).length : Int) < ((A n).length : Int)
    · rw [if_pos h, parts_snoc]
      congr 1
      have hw : wrap64 (((B n).length : Int) + 1) = ((B n).length : Int) + 1 := by unfold wrap64; omega
      rw [hw]
      obtain ⟨h1, _⟩ := part_some g n (by omega) 0 (zs_get n (by omega)) (((B n).length : Int) + 1) ((A n).length : Int) (B n).length (A n).length (by omega) (by omega) (by omega)
      rw [h1, List.take_length]
    · rw [if_neg h, List.append_nil, List.drop_of_length_le (by omega), List.append_nil]
theorem lack_self (v : List Int) : ∀ n, lackF v v n = []
  | 0 => rfl
  | n + 1 => by
    show lackF v v n ++ (if v.getD n 0 < v.getD n 0 then _ else []) = []
    rw [lack_self v n, if_neg (by omega)]; rfl
theorem lack_len (a b : List Int) : ∀ n, (lackF a b n).length ≤ n
  | 0 => Nat.le_refl _
  | n + 1 => by
    show (lackF a b n ++ (if a.getD n 0 < b.getD n 0 then _ else [])).length ≤ _
    have := lack_len a b n
    rw [List.length_append]
    split <;> simp <;> omega
theorem pre_gd {A B : Nat → List O} {m : Nat} (g : Gd zs A m) (hp : ∀ k, B k <+: A k) : Gd zs B m :=
  ⟨g.len, g.bb, fun i hi o ho => g.rep i hi o ((hp i).subset ho), fun i x hi hx j o ho => g.seq i x hi hx j o (by
    obtain ⟨t, e⟩ := hp i
    rw [← e, List.getElem?_append_left (List.getElem?_eq_some_iff.1 ho).1]; exact ho), fun i hi => (g.up i hi).sublist (hp i).sublist, fun i hi o ho => g.pos i hi o ((hp i).subset ho), fun i hi => Nat.le_trans (hp i).length_le (g.cnt i hi)⟩
theorem flatMap_step {f : Nat → List O} : ∀ (ks : List Nat) (o : O) (r : List O), ks.Nodup → ks.flatMap f = o :: r → ∃ k ∈ ks, ∃ t, f k = o :: t ∧ ks.flatMap (fun j => if j = k then t else f j) = r
  | [], o, r, _, h => by simp at h
  | a :: ks, o, r, hn, h => by
    obtain ⟨h1, h2⟩ := List.nodup_cons.1 hn
    rw [List.flatMap_cons] at h
    cases hf : f a with
    | nil =>
      rw [hf, List.nil_append] at h
      obtain ⟨k, hk, t, e1, e2⟩ := flatMap_step ks o r h2 h
      refine ⟨k, List.mem_cons_of_mem _ hk, t, e1, ?_⟩
      have hne : a ≠ k := fun e => h1 (by rw [e]; exact hk)
      rw [List.flatMap_cons, if_neg hne, hf, List.nil_append, e2]
    | cons x t =>
      rw [hf, List.cons_append] at h
      injection h with e1 e2
      subst e1
      refine ⟨a, List.mem_cons_self .., t, hf, ?_⟩
      rw [List.flatMap_cons, if_pos rfl]
      rw [flatMap_congr' (g := f) (fun j hj => if_neg (fun e => h1 (by rw [← e]; exact hj)))]
      exact e2
theorem rest_step {A B : Nat → List O} {m : Nat} (g : Gd zs A m) (hA : ∀ k, ∀ o ∈ A k, rO o = true) (hp : ∀ k, B k <+: A k) (o : O) (r : List O) (h : restL A B 64 = o :: r) :
    putI zs B o = 0 ∧ (∀ k, putL zs B o k <+: A k) ∧ restL A (putL zs B o) 64 = r := by
  obtain ⟨k, hk, t, e1, e2⟩ := flatMap_step _ o r List.nodup_range h
  have hk64 := List.mem_range.1 hk
  have ho : (A k)[(B k).length]? = some o := by
    have : ((A k).drop (B k).length)[0]? = some o := by rw [e1]; rfl
    rwa [List.getElem?_drop, Nat.add_zero] at this
  have hmem := List.mem_of_getElem? ho
  have hr := g.rep k hk64 o hmem
  have hq := g.seq k 0 hk64 (zs_get k hk64) _ o ho
  have gB := pre_gd g hp
  have hkn : knO zs B o.r = ((B k).length : Int) := by rw [hr]; unfold knO; rw [Int.toNat_natCast, getD_some (kn_at B k hk64)]
  have hlate : lateB B o ((B k).length : Int) = false := by
    unfold lateB
    rw [hr]
    cases hz : (B k).getLast? with
    | none =>
      rw [List.getLast?_eq_none_iff] at hz
      rw [part_empty gB k hk64 0 (zs_get k hk64) _ _ (by rw [hz]; simp; omega)]
    | some z =>
      have := part_last gB k hk64 0 (zs_get k hk64) z hz
      rw [Int.zero_add] at this
      rw [this]
      obtain ⟨ys, hys⟩ := List.getLast?_eq_some_iff.1 hz
      obtain ⟨ts, hts⟩ := hp k
      have hu := g.up k hk64
      rw [← hts, hys] at hu
      have hts2 : o ∈ ts := by
        rw [← hts, List.getElem?_append_right (Nat.le_refl _)] at ho
        exact List.mem_of_getElem? ho
      have := (List.pairwise_append.1 hu).2.2 z (by simp) o hts2
      exact decide_eq_false (by omega)
  have h0 : putI zs B o = 0 := by
    unfold putI
    rw [if_pos (hA k o hmem), hkn, if_neg (by omega), if_neg (by omega), hlate]
    rfl
  have hL : putL zs B o = fup B k (B k ++ [o]) := by
    unfold putL
    rw [if_pos h0, hr, Int.toNat_natCast]
  refine ⟨h0, fun j => ?_, ?_⟩
  · rw [hL]
    by_cases e : j = k
    · subst e
      rw [fup_same]
      refine ⟨t, ?_⟩
      obtain ⟨ts, hts⟩ := hp j
      have : (A j).drop (B j).length = ts := by rw [← hts, List.drop_left']; rfl
      rw [e1] at this
      rw [List.append_assoc, List.singleton_append, this, hts]
    · rw [fup_other _ _ _ _ e]; exact hp j
  · rw [hL, ← e2]
    unfold restL
    refine flatMap_congr' fun j hj => ?_
    by_cases e : j = k
    · subst e
      rw [fup_same, if_pos rfl, List.length_append, List.length_singleton, ← List.drop_drop, e1]
      rfl
    · rw [fup_other _ _ _ _ e, if_neg e]
theorem rest_nil {A B : Nat → List O} (hp : ∀ k, B k <+: A k) (h : restL A B 64 = []) : ∀ k, k < 64 → B k = A k := by
  intro k hk
  unfold restL at h
  rw [List.flatMap_eq_nil_iff] at h
  have := h k (List.mem_range.2 hk)
  have hl := List.drop_eq_nil_iff.1 this
  exact (hp k).eq_of_length_le hl
theorem kn_congr {A B : Nat → List O} (h : ∀ k, k < 64 → B k = A k) (bs : List Int) : kn bs B = kn bs A := by
  unfold kn
  apply List.map_congr_left
  intro k hk
  rw [h k (List.mem_range.1 hk)]
theorem flat_congr {A B : Nat → List O} (h : ∀ k, k < 64 → B k = A k) : flat B = flat A := flatMap_congr' fun k hk => h k (List.mem_range.1 hk)
end Go.Proofs.YtgnnpfainoppeaaDoor
