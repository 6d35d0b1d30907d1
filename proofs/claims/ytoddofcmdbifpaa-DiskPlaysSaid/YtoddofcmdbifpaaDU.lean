/- A disk with one file: what each call of the second law does to it. -/
import Derived.Test.YtoddofcmdbifpaaDT
import Derived.Test.YtoddofcmdbifpaaDQ
set_option linter.unusedVariables false
set_option linter.unusedSimpArgs false
set_option maxRecDepth 100000
namespace Go.Proofs.Ytoddofcmdbifpaa
open Go.RowKit Go.WideMaps Go.Maps

theorem fnd_one {s : DS} {x : Fl} (h : s.l = [x]) (hn : x.n = nmA) : fnd s nmA = (if s.dn = true then 12 else 0) ∧ (s.dn = false → fval s nmA = x) := by
  have := get_one x hn
  unfold fnd fval
  rw [h, this]
  simp
  intro e
  rw [e]
  simp
theorem btL_one (keep : List Int) (x : Fl) : btL keep 1 [x] = [bt keep 0 x] := by simp [btL]
/-- Boot, of one file. -/
theorem boot_one {w : World} {B d : Nat} {s : DS} (h : DK w B d s) {x : Fl} (hl : s.l = [x]) (hn : x.n = nmA) (kv : Value) (keep : List Int) (hk : LiesK encN 1 w kv keep) (hkd : keep ≠ [] → ∀ j, kv.ownBlock = some j → ¬ Has d s j) :
    Calls Try.prog 14 #[pv d, kv] w fun e w' => e = .returned (.tuple #[]) ∧ ∃ s2 x2, Out B d s s2 w w' ∧ s2.dn = false ∧ s2.l = [x2] ∧ x2.n = nmA ∧ x2.b = x.b.take x2.b.length ∧ x2.b.length ≤ x.b.length ∧ x.s ≤ x2.s ∧ s2.room = s.room ∧ (s.dn = true → x2.s = (x2.b.length : Int)) := by
  cases hd : s.dn with
  | false =>
    refine (boot_up w B d s h kv hd).mono ?_
    rintro e w' ⟨rfl, rfl⟩
    exact ⟨rfl, s, x, Out.refl h, hd, hl, hn, by simp, Nat.le_refl _, Int.le_refl _, rfl, fun e => by cases e⟩
  | true =>
    refine (boot_dn w B d s h (by rw [hl]; simp) kv keep hk hkd hd).mono ?_
    rintro e w' ⟨rfl, ho⟩
    have hs := h.sure x (by rw [hl]; exact List.mem_cons_self ..)
    have hb := btN_le hs (moreK_nn keep 0)
    have hm := moreK_nn keep 0
    refine ⟨rfl, _, bt keep 0 x, ho, rfl, ?_, hn, ?_, ?_, ?_, rfl, fun _ => ?_⟩
    · show btL keep s.l.length s.l = _
      rw [hl]
      exact btL_one keep x
    · have : (bt keep 0 x).b.length = btN x (moreK keep 0) := cut_len hb.1
      rw [this]
      rfl
    · have : (bt keep 0 x).b.length = btN x (moreK keep 0) := cut_len hb.1
      rw [this]
      exact hb.1
    · show x.s ≤ ((btN x (moreK keep 0) : Nat) : Int)
      have := hb.2
      omega
    · have : (bt keep 0 x).b.length = btN x (moreK keep 0) := cut_len hb.1
      rw [this]
      rfl
/-- Read, of one file, the power there. -/
theorem read_one {w : World} {B d : Nat} {s : DS} (h : DK w B d s) (hB : B ≤ w.heap.size) {x : Fl} (hl : s.l = [x]) (hn : x.n = nmA) (hd : s.dn = false) (hb : x.b.length ≤ 100000000) :
    Calls Try.prog 15 #[pv d, .string nmA] w fun e w' => ∃ v, e = .returned (.tuple #[v, .int .i64 0]) ∧ w'.ownsRow w.heap.size 5 1 v x.b.length (x.b.flatMap encB) ∧ Below w.heap.size w w' := by
  refine (read_any w B d s h hB nmA nmA_le (by rw [hl]; intro y hy; rw [List.mem_singleton.1 hy]; exact hb)).mono ?_
  rintro e w' ⟨v, rfl, ho, hb⟩
  obtain ⟨h1, h2⟩ := fnd_one hl hn
  rw [h1, hd]
  rw [h2 hd] at ho
  exact ⟨v, rfl, ho, hb⟩
theorem sure_one {w : World} {B d : Nat} {s : DS} (h : DK w B d s) {x : Fl} (hl : s.l = [x]) (hn : x.n = nmA) : Calls Try.prog 19 #[pv d, .string nmA] w fun e w' => e = .returned (.int .i64 x.s) ∧ w = w' := by
  have := sure_any w B d s h nmA nmA_le
  rw [hl, get_one x hn] at this
  exact this
theorem sync_one {w : World} {B d : Nat} {s : DS} (h : DK w B d s) {x : Fl} (hl : s.l = [x]) (hn : x.n = nmA) :
    Calls Try.prog 17 #[pv d, .string nmA] w fun e w' => ∃ s2 x2, Out B d s s2 w w' ∧ s2.l = [x2] ∧ x2.n = nmA ∧ x2.b = x.b ∧ s2.room = s.room ∧ ((e = .returned (.int .i64 12) ∧ x2.s = x.s) ∨ (e = .returned (.int .i64 0) ∧ x2.s = (x.b.length : Int))) := by
  obtain ⟨h1, h2⟩ := fnd_one hl hn
  cases hd : s.dn with
  | true =>
    rw [hd] at h1
    refine (sync_stop w B d s h nmA nmA_le (.inl h1)).mono ?_
    rintro e w' ⟨rfl, hb⟩
    exact ⟨s, x, Out.still h hb, hl, hn, rfl, rfl, .inl ⟨by rw [h1]; rfl, rfl⟩⟩
  | false =>
    rw [hd] at h1
    refine (sync_go w B d s h nmA nmA_le (by rw [hl]; simp) h1).mono ?_
    rintro e w' (⟨_, rfl, ho⟩ | ⟨_, rfl, ho⟩)
    · exact ⟨_, x, ho, by rw [aft_l]; exact hl, hn, rfl, aft_room s 1, .inl ⟨rfl, rfl⟩⟩
    · rw [h2 hd] at ho
      refine ⟨_, cutF x x.b.length, ho, ?_, hn, ?_, aft_room s 1, .inr ⟨rfl, rfl⟩⟩
      · show setF s.l (cutF x x.b.length) = _
        rw [hl]
        exact set_one x _ rfl
      · show x.b.take x.b.length = x.b
        exact List.take_length
theorem arm_one {w : World} {B d : Nat} {s : DS} (h : DK w B d s) (n : Int) (hn : -9223372036854775808 ≤ n ∧ n ≤ 9223372036854775807) :
    Calls Try.prog 18 #[pv d, .int .i64 n] w fun e w' => e = .returned (.tuple #[]) ∧ ∃ s2, Out B d s s2 w w' ∧ s2.l = s.l ∧ s2.room = s.room := by
  refine (arm_any w B d s h n hn).mono ?_
  rintro e w' ⟨rfl, ho⟩
  exact ⟨rfl, _, ho, rfl, rfl⟩
theorem aft_dn (s : DS) (n : Int) (h : tk s n < n) : (aft s n).dn = true := by
  unfold aft
  split
  · exact decide_eq_true h
  · rename_i ha
    unfold tk at h
    rw [if_neg ha] at h
    omega
/-- Append, of one file, the power there, room enough. -/
theorem append_one {w : World} {B d : Nat} {s : DS} (h : DK w B d s) (hB : B ≤ w.heap.size) {x : Fl} (hl : s.l = [x]) (hn : x.n = nmA) (hd : s.dn = false) (v : Value) (bs : List Int) (hv : LiesK encB 1 w v bs) (hvd : bs ≠ [] → ∀ j, v.ownBlock = some j → ¬ Has d s j) (hbs : bs.length ≤ 1000000) (hroom : (x.b.length : Int) + bs.length ≤ s.room) :
    Calls Try.prog 13 #[pv d, .string nmA, v] w fun e w' => ∃ s2 x2, Out B d s s2 w w' ∧ s2.l = [x2] ∧ x2.n = nmA ∧ x2.s = x.s ∧ s2.room = s.room ∧ ((e = .returned (.int .i64 12) ∧ s2.dn = true ∧ ∃ n, n ≤ bs.length ∧ x2.b = x.b ++ bs.take n) ∨ (e = .returned (.int .i64 0) ∧ x2.b = x.b ++ bs)) := by
  obtain ⟨h1, h2⟩ := fnd_one hl hn
  rw [hd] at h1
  have hu : usedF s.l = x.b.length := by rw [hl]; simp [usedF]
  refine (append_go w B d s h hB nmA nmA_le (by rw [hl]; simp) v bs hv hvd hbs h1 (by rw [hu]; omega)).mono ?_
  rintro e w' ⟨rfl, a', c', ho⟩
  rw [h2 hd] at ho
  obtain ⟨n, hn1, hn2⟩ := tk_nat s w B d h bs.length
  rw [hn1, Int.toNat_natCast] at ho
  rw [hn1]
  refine ⟨_, ⟨nmA, a', c', x.b ++ bs.take n, x.s⟩, ho, ?_, rfl, rfl, aft_room s _, ?_⟩
  · show setF s.l _ = _
    rw [hl]
    exact set_one x _ hn.symm
  · by_cases hlt : (n : Int) < (bs.length : Int)
    · rw [if_pos hlt]
      exact .inl ⟨rfl, aft_dn s _ (by rw [hn1]; exact hlt), n, hn2, rfl⟩
    · rw [if_neg hlt]
      refine .inr ⟨rfl, ?_⟩
      show x.b ++ bs.take n = _
      rw [List.take_of_length_le (by omega)]
end Go.Proofs.Ytoddofcmdbifpaa
