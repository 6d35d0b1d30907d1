/- GapTurns, plain: what is taken rises one by one; in the end all is known. -/
import Derived.Test.YtgnnpfainoppeaaGXP
set_option linter.unusedVariables false
set_option linter.unusedSimpArgs false
set_option maxRecDepth 100000
namespace Go.Proofs.Ytgnnpfainoppeaa
open Go.RowKit Go.WideMaps Go.Maps
open Ve (zs zs_len vw va RightP cs3 cs3_append)

def kup (vv : List Int) (o : O) : List Int := vv.set o.r.toNat o.q
def In4 (r q : Int) : Prop := (0 ≤ r ∧ r < 4) ∧ 1 ≤ q ∧ q ≤ 16
/-- The law's ops, and what is known. -/
structure TP (l : List O) (vv : List Int) : Prop where
  len : vv.length = 64
  ent : ∀ (j : Nat) (x : Int), vv[j]? = some x → 0 ≤ x ∧ x ≤ 16
  all : ∀ x ∈ l, ∃ r q, x = oneO r q ∧ In4 r q
theorem TP.right {l : List O} {vv : List Int} (h : TP l vv) : RightP vv := fun j x hx => by have := h.ent j x hx; omega
theorem TP.kn {l : List O} {vv : List Int} (h : TP l vv) (r : Int) : 0 ≤ knw vv r ∧ knw vv r ≤ 16 := by
  unfold knw
  rw [List.getD_eq_getElem?_getD]
  cases hx : vv[r.toNat]? with
  | none => exact ⟨Int.le_refl _, by decide⟩
  | some x => exact h.ent _ x hx
theorem TP.in {l : List O} {vv : List Int} (h : TP l vv) {x : O} (hx : x ∈ l) : In4 x.r x.q ∧ x = oneO x.r x.q := by
  obtain ⟨r, q, rfl, hi⟩ := h.all x hx
  exact ⟨hi, rfl⟩
theorem TP.ok {l : List O} {vv : List Int} (h : TP l vv) : OkO l := fun x hx => by
  have := (h.in hx).1
  unfold In4 at this
  omega
theorem TP.sub {l l' : List O} {vv : List Int} (h : TP l vv) (hs : ∀ x ∈ l', x ∈ l) : TP l' vv := ⟨h.len, h.ent, fun x hx => h.all x (hs x hx)⟩
theorem tp0 : TP [] zs := ⟨zs_len, fun j x hx => by
  have := List.mem_of_getElem? hx
  unfold zs at this
  rw [List.eq_of_mem_replicate this]; omega, fun x hx => by cases hx⟩
theorem TP.kupd {l l' : List O} {vv : List Int} (h : TP l vv) {o : O} (ho : In4 o.r o.q) : TP l (kup vv o) := by
  unfold In4 at ho
  refine ⟨by unfold kup; rw [List.length_set, h.len], fun j x hx => ?_, h.all⟩
  unfold kup at hx
  rw [List.getElem?_set] at hx
  split at hx
  · split at hx
    · injection hx with hx; omega
    · cases hx
  · exact h.ent j x hx
theorem TP.kupsd {l : List O} : ∀ (us : List O) {vv : List Int}, TP l vv → (∀ x ∈ us, x ∈ l) → TP l (us.foldl kup vv)
  | [], _, h, _ => h
  | o :: us, vv, h, hs => TP.kupsd us (h.kupd (l' := l) (h.in (hs o (List.mem_cons_self ..))).1) (fun x hx => hs x (List.mem_cons_of_mem _ hx))
theorem TP.len64 {l : List O} {vv : List Int} (h : TP l vv) (hr : RiseG l) : l.length ≤ 64 := by
  have hs : ∀ x ∈ l, x ∈ (List.range 4).flatMap (fun (r : Nat) => (List.range 16).map (fun (q : Nat) => oneO (r : Int) ((q : Int) + 1))) := by
    intro x hx
    obtain ⟨h1, h2⟩ := h.in hx
    unfold In4 at h1
    refine List.mem_flatMap.2 ⟨x.r.toNat, List.mem_range.2 (by omega), List.mem_map.2 ⟨(x.q - 1).toNat, List.mem_range.2 (by omega), ?_⟩⟩
    rw [h2]
    have e1 : ((x.r.toNat : Nat) : Int) = x.r := by omega
    have e2 : (((x.q - 1).toNat : Nat) : Int) + 1 = x.q := by omega
    show oneO ((x.r.toNat : Nat) : Int) ((((x.q - 1).toNat : Nat) : Int) + 1) = _
    rw [e1, e2]
  have := List.Nodup.length_le_of_subset (rise_nodup hr) (fun x hx => hs x hx)
  exact Nat.le_trans this (by decide +kernel)
theorem TP.add {l : List O} {vv : List Int} (h : TP l vv) {r q : Int} (hi : In4 r q) : TP (addL l vv (oneO r q)) vv := by
  refine ⟨h.len, h.ent, fun x hx => ?_⟩
  unfold addL at hx
  split at hx
  · unfold setG at hx
    rcases List.mem_append.1 hx with hx | hx
    · exact h.all x (List.mem_filter.1 hx).1
    · rcases List.mem_cons.1 hx with rfl | hx
      · exact ⟨r, q, rfl, hi⟩
      · exact h.all x (List.mem_filter.1 hx).1
  · exact h.all x hx
/-- What Add answers. -/
theorem TP.ans {l : List O} {vv : List Int} (h : TP l vv) {r q : Int} (hi : In4 r q) : addI l vv (oneO r q) = 0 ∨ addI l vv (oneO r q) = 11 ∨ addI l vv (oneO r q) = 9 := by
  have hk := h.kn r
  unfold In4 at hi
  unfold addI
  rw [if_pos (rO_one r q hi.1 hi.2)]
  split
  · exact .inr (.inl rfl)
  · rw [if_neg (show ¬ knw vv (oneO r q).r + 256 < (oneO r q).q from by show ¬ knw vv r + 256 < q; omega)]
    split
    · exact .inr (.inr rfl)
    · exact .inl rfl
theorem at_set {l : List O} (x : O) : atG (setG l x) x.r x.q = true := at_iff.2 ⟨x, by unfold setG; simp, rfl, rfl⟩
theorem at_keep {l : List O} (x : O) {r q : Int} (h : atG l r q = true) : atG (setG l x) r q = true := by
  obtain ⟨y, hy, rfl, rfl⟩ := at_iff.1 h
  rcases ltg_tri y x with ⟨q1, _, _⟩ | ⟨_, q2, _⟩ | ⟨_, _, q3⟩
  · exact at_iff.2 ⟨y, by unfold setG; exact List.mem_append_left _ (List.mem_filter.2 ⟨hy, by simpa using q1⟩), rfl, rfl⟩
  · unfold eqG at q2
    have q2 := of_decide_eq_true q2
    rw [q2.1, q2.2]
    exact at_set x
  · exact at_iff.2 ⟨y, by unfold setG; exact List.mem_append_right _ (List.mem_cons_of_mem _ (List.mem_filter.2 ⟨hy, by simpa using q3⟩)), rfl, rfl⟩
/-- All up to a place is known or waits. -/
def Has (l : List O) (vv : List Int) (r q : Int) : Prop := q ≤ knw vv r ∨ atG l r q = true
theorem has_add {l : List O} {vv : List Int} (h : TP l vv) {r q : Int} (hi : In4 r q) : Has (addL l vv (oneO r q)) vv r q ∧ ∀ r' q', Has l vv r' q' → Has (addL l vv (oneO r q)) vv r' q' := by
  have hk := h.kn r
  have hi' := hi
  unfold In4 at hi'
  have keep : ∀ r' q', Has l vv r' q' → Has (addL l vv (oneO r q)) vv r' q' := by
    intro r' q' hh
    rcases hh with hh | hh
    · exact .inl hh
    · refine .inr ?_
      unfold addL
      split
      · exact at_keep _ hh
      · exact hh
  refine ⟨?_, keep⟩
  by_cases h1 : q ≤ knw vv r
  · exact .inl h1
  · by_cases h2 : atG l r q = true
    · exact keep _ _ (.inr h2)
    · refine .inr ?_
      have e : addI l vv (oneO r q) = 0 := by
        unfold addI
        rw [if_pos (rO_one r q hi'.1 hi'.2), if_neg (show ¬ (oneO r q).q ≤ knw vv (oneO r q).r from h1), if_neg (show ¬ knw vv (oneO r q).r + 256 < (oneO r q).q from by show ¬ knw vv r + 256 < q; omega), if_neg (show ¬ atG l (oneO r q).r (oneO r q).q = true from h2)]
      unfold addL
      rw [if_pos e]
      exact at_set (oneO r q)
/-! ### what is taken -/
theorem knw_kup {vv : List Int} {o : O} (hl : vv.length = 64) (ho : In4 o.r o.q) (r : Int) (hr : 0 ≤ r ∧ r < 64) : knw (kup vv o) r = if r = o.r then o.q else knw vv r := by
  unfold In4 at ho
  unfold knw kup
  split
  · rename_i e
    rw [e]
    exact getD_set (by omega)
  · rename_i e
    exact getD_set_ne (by omega)
/-- What is known when a part is taken. -/
theorem knw_kups {l : List O} {vv : List Int} (h : TP l vv) (hl : RiseG l) : ∀ (us : List O), (∀ x ∈ us, x ∈ l ∧ knw vv x.r < x.q) → RiseG us → ∀ r : Int, 0 ≤ r ∧ r < 64 →
    (knw (us.foldl kup vv) r = knw vv r ∨ ∃ x ∈ us, x.r = r ∧ x.q = knw (us.foldl kup vv) r) ∧ (∀ x ∈ us, x.r = r → x.q ≤ knw (us.foldl kup vv) r) ∧ knw vv r ≤ knw (us.foldl kup vv) r := by
  intro us
  induction us using snocRec with
  | h0 => exact fun _ _ r _ => ⟨.inl rfl, (fun x hx => by cases hx), Int.le_refl _⟩
  | h1 us x ih =>
    intro hs hr r hr64
    obtain ⟨hr1, _, hr2⟩ := List.pairwise_append.1 hr
    obtain ⟨i1, i2, i3⟩ := ih (fun y hy => hs y (List.mem_append_left _ hy)) hr1 r hr64
    have hx := hs x (List.mem_append_right _ (List.mem_singleton_self x))
    have hT := TP.kupsd us h (fun y hy => (hs y (List.mem_append_left _ hy)).1)
    have e : knw ((us ++ [x]).foldl kup vv) r = if r = x.r then x.q else knw (us.foldl kup vv) r := by
      rw [List.foldl_append]
      exact knw_kup hT.len (h.in hx.1).1 r hr64
    rw [e]
    by_cases hrr : r = x.r
    · rw [if_pos hrr]
      refine ⟨.inr ⟨x, List.mem_append_right _ (List.mem_singleton_self x), hrr.symm, rfl⟩, fun y hy hyr => ?_, by have := hx.2; rw [← hrr] at this; omega⟩
      rcases List.mem_append.1 hy with hy | hy
      · have := hr2 y hy x (List.mem_singleton_self x)
        unfold ltG at this
        rw [if_pos (by rw [hyr, hrr])] at this
        have := of_decide_eq_true this
        omega
      · rw [List.mem_singleton.1 hy]; exact Int.le_refl _
    · rw [if_neg hrr]
      refine ⟨?_, fun y hy hyr => ?_, i3⟩
      · rcases i1 with i1 | ⟨y, hy, e1, e2⟩
        · exact .inl i1
        · exact .inr ⟨y, List.mem_append_left _ hy, e1, e2⟩
      · rcases List.mem_append.1 hy with hy | hy
        · exact i2 y hy hyr
        · rw [List.mem_singleton.1 hy] at hyr; exact absurd hyr.symm hrr
theorem turn_mem {l : List O} {k : Int → Int} {x : O} : x ∈ turns l k ↔ x ∈ l ∧ turn l k x = true := by unfold turns; rw [List.mem_filter]
/-- The next that is taken is the next of its replica. -/
theorem turn_next {l : List O} {vv : List Int} (h : TP l vv) (hl : RiseG l) {us rest : List O} {o : O} (he : turns l (knw vv) = us ++ o :: rest) : o.q = knw (us.foldl kup vv) o.r + 1 := by
  have hmem : ∀ x ∈ us ++ o :: rest, x ∈ l ∧ turn l (knw vv) x = true := fun x hx => turn_mem.1 (by rw [he]; exact hx)
  have hR : RiseG (us ++ o :: rest) := by rw [← he]; exact turns_rise hl _
  obtain ⟨r1, r2, r3⟩ := List.pairwise_append.1 hR
  have ho := hmem o (List.mem_append_right _ (List.mem_cons_self ..))
  obtain ⟨t1, t2⟩ := turn_iff.1 ho.2
  have hin := (h.in ho.1).1
  unfold In4 at hin
  have hus : ∀ x ∈ us, x ∈ l ∧ knw vv x.r < x.q := fun x hx => by
    have := hmem x (List.mem_append_left _ hx)
    exact ⟨this.1, (turn_iff.1 this.2).1⟩
  obtain ⟨k1, k2, k3⟩ := knw_kups h hl us hus r1 o.r (by omega)
  have up : knw (us.foldl kup vv) o.r < o.q := by
    rcases k1 with e | ⟨x, hx, e1, e2⟩
    · rw [e]; exact t1
    · have := r3 x hx o (List.mem_cons_self ..)
      unfold ltG at this
      rw [if_pos e1] at this
      have := of_decide_eq_true this
      omega
  by_cases hd : o.q = knw (us.foldl kup vv) o.r + 1
  · exact hd
  · exfalso
    obtain ⟨x, hx, x1, x2⟩ := at_iff.1 (t2 (o.q - 1) (by omega) (by omega))
    have xt : turn l (knw vv) x = true := turn_iff.2 ⟨by rw [x1, x2]; omega, fun m m1 m2 => by
      rw [x1] at m1 ⊢
      exact t2 m m1 (by omega)⟩
    have hxo : ltG x o = true := by unfold ltG; rw [if_pos x1]; exact decide_eq_true (by omega)
    have hxm : x ∈ us ++ o :: rest := by rw [← he]; exact turn_mem.2 ⟨hx, xt⟩
    have hxu : x ∈ us := by
      rcases List.mem_append.1 hxm with hm | hm
      · exact hm
      · rcases List.mem_cons.1 hm with rfl | hm
        · rw [ltg_irr] at hxo; cases hxo
        · have := (List.pairwise_cons.1 r2).1 x hm
          rcases ltg_tri x o with ⟨q1, q2, q3⟩ | ⟨q1, q2, q3⟩ | ⟨q1, q2, q3⟩ <;> simp_all
    have := k2 x hxu x1
    omega
/-- The law's round: what is taken, what is left. -/
noncomputable def tkn (l : List O) (vv : List Int) (n : Nat) : List O := (turns l (knw vv)).take n
theorem rdy_tkn {l : List O} (hl : RiseG l) (vv : List Int) (n : Nat) : (rdyR l (knw vv) (n : Int)).2 = tkn l vv n := by
  rw [rdy_eq hl]; rfl
theorem tkn_mem {l : List O} {vv : List Int} {n : Nat} {x : O} (hx : x ∈ tkn l vv n) : x ∈ l ∧ turn l (knw vv) x = true := turn_mem.1 (List.mem_of_mem_take hx)
theorem tkn_len {l : List O} {vv : List Int} {n : Nat} : (tkn l vv n).length ≤ n := by unfold tkn; rw [List.length_take]; omega
theorem tkn_next {l : List O} {vv : List Int} (h : TP l vv) (hl : RiseG l) {n j : Nat} {o : O} (hj : (tkn l vv n)[j]? = some o) : o.q = knw (((tkn l vv n).take j).foldl kup vv) o.r + 1 ∧ In4 o.r o.q ∧ o = oneO o.r o.q := by
  have hm := h.in (tkn_mem (List.mem_of_getElem? hj)).1
  refine ⟨?_, hm⟩
  unfold tkn at hj ⊢
  have hjn : j < n := by
    have := (List.getElem?_eq_some_iff.1 hj).1
    rw [List.length_take] at this; omega
  rw [List.getElem?_take, if_pos hjn] at hj
  rw [List.take_take, Nat.min_eq_left (by omega)]
  have hlt := (List.getElem?_eq_some_iff.1 hj).1
  refine turn_next h hl (rest := (turns l (knw vv)).drop (j + 1)) ?_
  have e1 := (List.getElem?_eq_some_iff.1 hj).2
  rw [← e1, ← List.drop_eq_getElem_cons hlt, List.take_append_drop]
theorem kup_snoc (us : List O) (j : Nat) (o : O) (vv : List Int) (h : us[j]? = some o) : (us.take (j + 1)).foldl kup vv = kup ((us.take j).foldl kup vv) o := by
  rw [Ve.take_snoc' us j o h, List.foldl_append]
  rfl
theorem left_mem {l : List O} (hl : RiseG l) {vv : List Int} {n : Nat} {x : O} : x ∈ (rdyR l (knw vv) (n : Int)).1 ↔ x ∈ l ∧ knw vv x.r < x.q ∧ x ∉ tkn l vv n := by
  rw [rdy_eq hl]
  show x ∈ (fresh (knw vv) l).filter (fun o => @decide (o ∉ (turns l (knw vv)).take (n : Int).toNat) (Classical.propDecidable _)) ↔ _
  rw [List.mem_filter]
  unfold fresh tkn
  rw [List.mem_filter]
  simp [and_assoc]
theorem TP.round {l : List O} {vv : List Int} (h : TP l vv) (hl : RiseG l) (n : Nat) : TP (rdyR l (knw vv) (n : Int)).1 ((tkn l vv n).foldl kup vv) :=
  (TP.kupsd (tkn l vv n) h (fun x hx => (tkn_mem hx).1)).sub (fun x hx => ((left_mem hl).1 hx).1)
/-! ### the end -/
def Full (l : List O) (vv : List Int) : Prop := ∀ r q, In4 r q → Has l vv r q
theorem full_turn {l : List O} {vv : List Int} (h : TP l vv) (hf : Full l vv) {x : O} (hx : x ∈ l) (hq : knw vv x.r < x.q) : turn l (knw vv) x = true := by
  have hin := (h.in hx).1
  have hk := h.kn x.r
  unfold In4 at hin
  exact turn_iff.2 ⟨hq, fun m m1 m2 => by
    rcases hf x.r m (by unfold In4; omega) with q | q
    · omega
    · exact q⟩
theorem full_round {l : List O} {vv : List Int} (h : TP l vv) (hl : RiseG l) (hf : Full l vv) (n : Nat) : Full (rdyR l (knw vv) (n : Int)).1 ((tkn l vv n).foldl kup vv) := by
  intro r q hi
  have hi' := hi
  unfold In4 at hi'
  obtain ⟨_, k2, k3⟩ := knw_kups h hl (tkn l vv n) (fun x hx => ⟨(tkn_mem hx).1, (turn_iff.1 (tkn_mem hx).2).1⟩) ((turns_rise hl _).sublist (List.take_sublist _ _)) r (by omega)
  rcases hf r q hi with hq | hq
  · exact .inl (by omega)
  · obtain ⟨x, hx, x1, x2⟩ := at_iff.1 hq
    by_cases hk : knw vv r < q
    · by_cases ht : x ∈ tkn l vv n
      · exact .inl (by have := k2 x ht x1; omega)
      · exact .inr (at_iff.2 ⟨x, (left_mem hl).2 ⟨hx, by rw [x1, x2]; exact hk, ht⟩, x1, x2⟩)
    · exact .inl (by omega)
theorem less_round {l : List O} {vv : List Int} (h : TP l vv) (hl : RiseG l) (hf : Full l vv) {n : Nat} (hn : 1 ≤ n) : (rdyR l (knw vv) (n : Int)).1.length ≤ l.length - 1 := by
  cases l with
  | nil => simp [rdyR]
  | cons a l =>
    have hnd : (rdyR (a :: l) (knw vv) (n : Int)).1.Nodup := rise_nodup (rdy_ok hl h.ok _ _).2.2
    by_cases hex : ∃ y ∈ a :: l, y ∉ (rdyR (a :: l) (knw vv) (n : Int)).1
    · obtain ⟨y, hy, hny⟩ := hex
      have : (y :: (rdyR (a :: l) (knw vv) (n : Int)).1).length ≤ (a :: l).length := List.Nodup.length_le_of_subset (List.nodup_cons.2 ⟨hny, hnd⟩) (fun x hx => by
        rcases List.mem_cons.1 hx with rfl | hx
        · exact hy
        · exact ((left_mem hl).1 hx).1)
      simp only [List.length_cons] at this ⊢
      omega
    · exfalso
      have hall : ∀ y ∈ a :: l, y ∈ (rdyR (a :: l) (knw vv) (n : Int)).1 := fun y hy => Classical.byContradiction (fun hc => hex ⟨y, hy, hc⟩)
      have ha := (left_mem hl).1 (hall a (List.mem_cons_self ..))
      have ht := full_turn h hf (List.mem_cons_self ..) ha.2.1
      have hne : tkn (a :: l) vv n ≠ [] := by
        unfold tkn
        intro e
        have hm := turn_mem.2 ⟨List.mem_cons_self .., ht⟩
        have : turns (a :: l) (knw vv) = [] := by
          rcases List.take_eq_nil_iff.1 e with e | e
          · omega
          · exact e
        rw [this] at hm; cases hm
      obtain ⟨z, hz⟩ := List.exists_mem_of_ne_nil _ hne
      exact ((left_mem hl).1 (hall z (tkn_mem hz).1)).2.2 hz
theorem full_end {vv : List Int} (h : TP [] vv) (hf : Full [] vv) {r : Nat} (hr : r < 4) : knw vv (r : Int) = 16 := by
  rcases hf (r : Int) 16 (by unfold In4; omega) with q | q
  · have := h.kn (r : Int); omega
  · cases q
end Go.Proofs.Ytgnnpfainoppeaa
