/- Merged by tools/merge.py: SH, SJ, SK. -/
import Derived.Test.YtoddofcmdbifpaaDV
import Derived.Test.YtoddofcmdbifpaaRF
import Derived.Test.YtoddofcmdbifpaaSB
import Derived.Test.YtoddofcmdbifpaaSDE
import Derived.Test.YtoddofcmdbifpaaSFG

set_option linter.unusedVariables false
set_option linter.unusedSimpArgs false
namespace Go.Proofs.Ytoddofcmdbifpaa
open Go.RowKit Go.WideMaps Go.Maps

structure TIE (s : DS) (l : List Fl) (lasts : Int) (dn : Bool) : Prop where
  cm : CM s.l l
  dne : s.dn = dn
  lst : dn = false → lasts = (if s.ar = true then s.lf else -1)
theorem TIE.with_l {s : DS} {l : List Fl} {lasts : Int} {dn : Bool} (h : TIE s l lasts dn) {L L' : List Fl} (hc : CM L L') : TIE { s with l := L } L' lasts dn := ⟨hc, h.dne, h.lst⟩
theorem TIE.m {s : DS} {l : List Fl} {lasts : Int} {dn : Bool} (h : TIE s l lasts dn) (m : Option Nat) : TIE { s with m := m } l lasts dn := ⟨h.cm, h.dne, h.lst⟩
theorem tie_step {s : DS} {l : List Fl} {lasts : Int} (h : TIE s l lasts false) (hl : s.ar = true → 0 ≤ s.lf) :
    (tk s 1 < 1 ∧ ∃ l2, rst lasts false = (l2, true, false) ∧ TIE (aft s 1) l l2 true) ∨ (¬ tk s 1 < 1 ∧ ∃ l2, rst lasts false = (l2, false, true) ∧ TIE (aft s 1) l l2 false) := by
  have e := h.lst rfl
  unfold tk aft rst
  cases ha : s.ar with
  | false =>
    rw [ha] at e
    simp only [Bool.false_eq_true, if_false] at e ⊢
    right
    refine ⟨by omega, lasts, by rw [if_pos (by omega)], h⟩
  | true =>
    rw [ha] at e
    have := hl ha
    simp only [if_true] at e ⊢
    by_cases h0 : s.lf = 0
    · left
      have e1 : min 1 s.lf = 0 := by omega
      refine ⟨by omega, lasts, by rw [if_neg (by omega), if_pos (by omega)], ?_, ?_, fun q => by cases q⟩
      · unfold tk; rw [ha]; exact h.cm
      · unfold tk; simp only [ha, if_true]; rw [e1]; rfl
    · right
      have e1 : min 1 s.lf = 1 := by omega
      refine ⟨by omega, lasts - 1, by rw [if_neg (by omega), if_neg (by omega)], ?_, ?_, fun q => ?_⟩
      · unfold tk; rw [ha]; exact h.cm
      · unfold tk; simp only [ha, if_true]; rw [e1]; rfl
      · unfold tk; simp only [ha, if_true]; rw [e1, e]
theorem tie_take {s : DS} {l : List Fl} {lasts : Int} (h : TIE s l lasts false) (hl : s.ar = true → 0 ≤ s.lf) (n : Nat) :
    (tk s n).toNat = apN lasts n ∧ (if tk s n < (n : Int) then (12 : Int) else 0) = apE lasts n ∧ TIE (aft s n) l (apL lasts n) (apD lasts n) := by
  have e := h.lst rfl
  have hd := h.dne
  unfold apN apE apL apD
  cases ha : s.ar with
  | false =>
    rw [ha] at e
    simp only [Bool.false_eq_true, if_false] at e
    have et : tk s n = n := by unfold tk; rw [ha]; simp
    have ea : aft s n = s := by unfold aft; rw [ha]; simp
    rw [et, ea, e]
    refine ⟨by simp, by simp, h.cm, by rw [hd]; simp, fun _ => by simp [ha]⟩
  | true =>
    rw [ha] at e
    have h0 := hl ha
    simp only [if_true] at e
    have et : tk s n = min (n : Int) s.lf := by unfold tk; rw [ha]; simp
    have ea : aft s n = { s with lf := s.lf - min (n : Int) s.lf, dn := decide (min (n : Int) s.lf < n) } := by unfold aft; rw [ha, et]; simp
    have n0 : ¬ lasts < 0 := by omega
    simp only [n0, if_false]
    rw [et, ea, e]
    refine ⟨by omega, ?_, h.cm, ?_, fun q => ?_⟩
    · by_cases hc : s.lf < (n : Int)
      · rw [if_pos (by omega), if_pos (by omega)]
      · rw [if_neg (by omega), if_neg (by omega)]
    · show decide _ = decide _
      congr 1
      apply propext
      constructor <;> intro q <;> omega
    · simp only [ha, if_true]
      omega
/-- What there is between two calls: the disk, the reference's box, its list; nothing of one is the other's. -/
structure PI (w W : World) (d rb : Nat) (s : DS) (v : Value) (l : List Fl) (lasts : Int) (dn : Bool) : Prop where
  dk : DK W w.heap.size d s
  bx : RB W rb v s.room lasts dn
  lo : w.heap.size ≤ rb
  nd : ¬ Has d s rb
  rd : RD W v l
  top : l ≠ [] → ∀ j, v.ownBlock = some j → ¬ Has d s j ∧ j ≠ rb ∧ w.heap.size ≤ j
  el : ∀ x ∈ l, x.b ≠ [] → ∀ j, x.v.ownBlock = some j → ¬ Has d s j ∧ j ≠ rb ∧ w.heap.size ≤ j
  tie : TIE s l lasts dn
  bel : Below w.heap.size w W
section
variable {w W W' : World} {d rb : Nat} {s t : DS} {v : Value} {l : List Fl} {lasts : Int} {dn : Bool}
theorem RD.far {P : Nat → Prop} (h : RD W v l) (hf : Far P W W') (h1 : l ≠ [] → ∀ j, v.ownBlock = some j → ¬ P j) (h2 : ∀ x ∈ l, x.b ≠ [] → ∀ j, x.v.ownBlock = some j → ¬ P j) : RD W' v l :=
  ⟨h.1.far' hf h1, fun x hx => (h.2 x hx).far' hf (h2 x hx)⟩
theorem PI.step (h : PI w W d rb s v l lasts dn) (hb : Below W.heap.size W W') : PI w W' d rb s v l lasts dn :=
  ⟨h.dk.step hb, h.bx.step hb, h.lo, h.nd, h.rd.step hb, h.top, h.el, h.tie, h.bel.trans (hb.mono h.bel.size)⟩
/-- The disk alone turned. -/
structure PH (w W : World) (d rb : Nat) (s : DS) (v : Value) (l : List Fl) (room lasts : Int) (dn : Bool) : Prop where
  dk : DK W w.heap.size d s
  bx : RB W rb v room lasts dn
  lo : w.heap.size ≤ rb
  nd : ¬ Has d s rb
  rd : RD W v l
  top : l ≠ [] → ∀ j, v.ownBlock = some j → ¬ Has d s j ∧ j ≠ rb ∧ w.heap.size ≤ j
  el : ∀ x ∈ l, x.b ≠ [] → ∀ j, x.v.ownBlock = some j → ¬ Has d s j ∧ j ≠ rb ∧ w.heap.size ≤ j
  room : s.room = room
  bel : Below w.heap.size w W
theorem PI.ph (h : PI w W d rb s v l lasts dn) : PH w W d rb s v l s.room lasts dn := ⟨h.dk, h.bx, h.lo, h.nd, h.rd, h.top, h.el, rfl, h.bel⟩
theorem lt_of_own {α : Type} {enc : α → List Value} {k : Nat} {u : Value} {m : List α} (h : LiesK enc k W u m) (hne : m ≠ []) {j : Nat} (hj : u.ownBlock = some j) : j < W.heap.size := by
  obtain ⟨ao, cap, rfl, _, _, _, hc⟩ := h
  cases hb : ao with
  | none => rw [hb] at hj; cases hj
  | some b =>
    obtain ⟨g, o, rfl, hg, _⟩ := hc b hb hne
    rw [hb] at hj
    have : g = j := by simpa [Value.ownBlock] using hj
    omega
variable {room : Int}
theorem PH.step (h : PH w W d rb s v l room lasts dn) (hb : Below W.heap.size W W') : PH w W' d rb s v l room lasts dn :=
  ⟨h.dk.step hb, h.bx.step hb, h.lo, h.nd, h.rd.step hb, h.top, h.el, h.room, h.bel.trans (hb.mono h.bel.size)⟩
theorem PH.out (h : PH w W d rb s v l room lasts dn) (ho : Out w.heap.size d s t W W') (hr : t.room = s.room) : PH w W' d rb t v l room lasts dn := by
  have rblt : rb < W.heap.size := lt_of_block h.bx
  refine ⟨ho.dk, h.bx.far ho.far h.nd, h.lo, fun q => ?_, h.rd.far ho.far (fun hne j q => (h.top hne j q).1) (fun x hx hne j q => (h.el x hx hne j q).1), fun hne j q => ?_, fun x hx hne j q => ?_, hr.trans h.room, h.bel.trans (ho.bel h.dk h.bel.size)⟩
  · rcases ho.sub _ q with z | z
    · exact h.nd z
    · omega
  · obtain ⟨a1, a2, a3⟩ := h.top hne j q
    refine ⟨fun r => ?_, a2, a3⟩
    rcases ho.sub _ r with z | z
    · exact a1 z
    · have := lt_of_own h.rd.1 hne q; omega
  · obtain ⟨a1, a2, a3⟩ := h.el x hx hne j q
    refine ⟨fun r => ?_, a2, a3⟩
    rcases ho.sub _ r with z | z
    · exact a1 z
    · have := lt_of_own (h.rd.2 x hx) hne q; omega
/-- The reference's list is made anew, and put into its box. -/
theorem PH.put (h : PH w W d rb s v l room lasts dn) {W1 : World} (hb : Below W.heap.size W W1) {u : Value} {l' : List Fl} (hn : RN W W1 l u l') (lasts' : Int) (dn' : Bool) : PH w (sets4 W1 rb u (.int .i64 room) (.int .i64 lasts') (.bool dn')) d rb s u l' room lasts' dn' := by
  have rblt : rb < W.heap.size := lt_of_block h.bx
  have hs := h.step hb
  have hf := far_set4 W1 rb u (.int .i64 room) (.int .i64 lasts') (.bool dn')
  have htop : l' ≠ [] → ∀ j, u.ownBlock = some j → ¬ Has d s j ∧ j ≠ rb ∧ w.heap.size ≤ j := fun hne j q => by
    have h1 := hn.top hne j q
    refine ⟨fun r => ?_, by omega, Nat.le_trans h.bel.size h1⟩
    have := (h.dk.base j r).2
    omega
  have hel : ∀ x ∈ l', x.b ≠ [] → ∀ j, x.v.ownBlock = some j → ¬ Has d s j ∧ j ≠ rb ∧ w.heap.size ≤ j := fun x hx hne j q => by
    rcases hn.el x hx with ⟨y, hy, hq, e⟩ | h1
    · exact h.el y hy (hq hne) j (by rw [← e]; exact q)
    · have h1 := h1 hne j q
      refine ⟨fun r => ?_, by omega, Nat.le_trans h.bel.size h1⟩
      have := (h.dk.base j r).2
      omega
  refine ⟨hs.dk.still hf (fun k q r => by subst r; exact h.nd q), sets4_row hs.bx, h.lo, h.nd, hn.rd.far hf (fun hne j q => (htop hne j q).2.1) (fun x hx hne j q => (hel x hx hne j q).2.1), htop, hel, h.room, hs.bel.trans (hf.below hs.bel.size (fun k q => by rw [q]; exact h.lo))⟩
theorem PH.pi (h : PH w W d rb s v l room lasts dn) (ht : TIE s l lasts dn) : PI w W d rb s v l lasts dn := ⟨h.dk, by rw [h.room]; exact h.bx, h.lo, h.nd, h.rd, h.top, h.el, ht, h.bel⟩
theorem rn_same (h : RD W v l) (hb : Below W.heap.size W W') (ht : l = [] ∨ True) : RD W' v l := h.step hb
/-- The box alone: the same list, other words beside it. -/
theorem PH.same (h : PH w W d rb s v l room lasts dn) {W1 : World} (hb : Below W.heap.size W W1) (lasts' : Int) (dn' : Bool) : PH w (sets4 W1 rb v (.int .i64 room) (.int .i64 lasts') (.bool dn')) d rb s v l room lasts' dn' := by
  have hs := h.step hb
  have hf := far_set4 W1 rb v (.int .i64 room) (.int .i64 lasts') (.bool dn')
  exact ⟨hs.dk.still hf (fun k q r => by subst r; exact h.nd q), sets4_row hs.bx, h.lo, h.nd, hs.rd.far hf (fun hne j q => (h.top hne j q).2.1) (fun x hx hne j q => (h.el x hx hne j q).2.1), h.top, h.el, h.room, hs.bel.trans (hf.below hs.bel.size (fun k q => by rw [q]; exact h.lo))⟩
theorem PH.last (h : PH w W d rb s v l room lasts dn) (lasts' : Int) : PH w (W.setCell ⟨rb, 2, none⟩ (.int .i64 lasts')) d rb s v l room lasts' dn := by
  have hf := far_set W rb 2 (.int .i64 lasts')
  exact ⟨h.dk.still hf (fun k q r => by subst r; exact h.nd q), row_setC (j := 2) (u := .int .i64 lasts') h.bx, h.lo, h.nd, h.rd.far hf (fun hne j q => (h.top hne j q).2.1) (fun x hx hne j q => (h.el x hx hne j q).2.1), h.top, h.el, h.room, h.bel.trans (hf.below h.bel.size (fun k q => by rw [q]; exact h.lo))⟩
end
end Go.Proofs.Ytoddofcmdbifpaa

set_option linter.unusedVariables false
set_option linter.unusedSimpArgs false
namespace Go.Proofs.Ytoddofcmdbifpaa
open Go.RowKit Go.WideMaps Go.Maps

theorem DK.rise {w : World} {B d : Nat} {s : DS} (h : DK w B d s) : Rise s.l := by
  rcases h.map with ⟨_, e⟩ | ⟨b, _, _, hb⟩
  · rw [e]; exact List.Pairwise.nil
  · exact hb.rise
theorem look_tie {s : DS} {l : List Fl} {lasts : Int} {dn : Bool} (h : TIE s l lasts dn) (nm : ByteArray) :
    (dn = true ∧ fnd s nm = 12) ∨ (dn = false ∧ fnd s nm = 8 ∧ atF l nm = -1) ∨ (dn = false ∧ fnd s nm = 0 ∧ ∃ (i : Nat) (x : Fl), atF l nm = (i : Int) ∧ l[i]? = some x ∧ x.n = nm ∧ core (fval s nm) = core x ∧ fval s nm ∈ s.l) := by
  unfold fnd fval
  rw [h.dne]
  cases dn with
  | true => left; exact ⟨rfl, rfl⟩
  | false =>
    right
    rcases h.cm.getF nm with ⟨h1, h2⟩ | ⟨x, y, h1, h2, hc⟩
    · left
      rcases at_cases l nm with ⟨a, _⟩ | ⟨i, z, a, b, c, _⟩
      · refine ⟨rfl, by rw [h1]; rfl, a⟩
      · rw [h2] at c; cases c
    · right
      rcases at_cases l nm with ⟨_, b⟩ | ⟨i, z, a, b, c, e⟩
      · rw [h2] at b; cases b
      · rw [h2] at c
        injection c with c
        subst c
        refine ⟨rfl, by rw [h1]; rfl, i, y, a, b, e, by rw [h1]; exact hc, ?_⟩
        rw [h1]
        exact List.mem_of_find?_eq_some (by unfold getF at h1; exact h1)
theorem ins_len (f : Fl) (l : List Fl) : (ins f l).length = l.length + 1 := by
  have := (ins_perm f l).length_eq
  simpa using this
theorem drop_len (l : List Fl) (nm : ByteArray) : (dropF l nm).length ≤ l.length := List.length_filter_le _ _
/-- What the reference answers, and holds, behind the disk's call. -/
def FIT (w : World) (d rb : Nat) (v : Value) (l : List Fl) (room lasts : Int) (dn : Bool) (k : Int) (nm : ByteArray) (bv : Value) (n : Int) (nt : ByteArray) (t : DS) (ev : Int) : Prop :=
  ∀ W, PH w W d rb t v l room lasts dn → Calls Try.prog 29 #[rdv v room lasts dn, .int .i64 k, .string nm, bv, .int .i64 n, .string nt] W fun e W' => ∃ u l' lasts' dn', e = .returned (.tuple #[rdv u room lasts' dn', .int .i64 ev]) ∧ (RN W W' l u l' ∨ (u = v ∧ l' = l)) ∧ Below W.heap.size W W' ∧ TIE t l' lasts' dn' ∧ l'.length ≤ l.length + 1
def PAIR (w : World) (d rb : Nat) (s : DS) (v : Value) (l : List Fl) (lasts : Int) (dn : Bool) (F : Nat) (da : Array Value) (k : Int) (nm : ByteArray) (bv : Value) (n : Int) (nt : ByteArray) : Prop :=
  ∀ W, PH w W d rb s v l s.room lasts dn → Calls Try.prog F da W fun e W' => ∃ t ev, e = .returned (.int .i64 ev) ∧ Out w.heap.size d s t W W' ∧ t.room = s.room ∧ FIT w d rb v l s.room lasts dn k nm bv n nt t ev
section
variable {w : World} {d rb : Nat} {v : Value} {l : List Fl} {room lasts : Int} {dn : Bool} {nm nt : ByteArray} {bv : Value} {n : Int} {t : DS}
theorem fit_dn (hl : l.length < 80000) (k : Int) (ht : TIE t l lasts true) : FIT w d rb v l room lasts true k nm bv n nt t 12 := fun W h =>
  (do_dn W v l room lasts h.rd hl nm nt bv n k).mono fun e W' ⟨he, hb⟩ => ⟨v, l, lasts, true, he, .inr ⟨rfl, rfl⟩, hb, ht, by omega⟩
theorem fit_has (hl : l.length < 80000) (i : Nat) (ha : atF l nm = (i : Int)) (ht : TIE t l lasts false) : FIT w d rb v l room lasts false 0 nm bv n nt t 9 := fun W h =>
  (do_has W v l room lasts h.rd hl nm nt bv n i ha).mono fun e W' ⟨he, hb⟩ => ⟨v, l, lasts, false, he, .inr ⟨rfl, rfl⟩, hb, ht, by omega⟩
theorem fit_none (hl : l.length < 80000) (k : Int) (hk : k ≠ 0) (ha : atF l nm = -1) (ht : TIE t l lasts false) : FIT w d rb v l room lasts false k nm bv n nt t 8 := fun W h =>
  (do_none W v l room lasts h.rd hl nm nt bv n k hk ha).mono fun e W' ⟨he, hb⟩ => ⟨v, l, lasts, false, he, .inr ⟨rfl, rfl⟩, hb, ht, by omega⟩
end
section
variable {w W0 : World} {d rb : Nat} {s : DS} {v : Value} {l : List Fl} {lasts : Int} {dn : Bool} {nm nt : ByteArray} {bv : Value} {n : Int}
/-- What every pair starts from. -/
structure PP (w : World) (s : DS) (l : List Fl) (lasts : Int) (dn : Bool) (nm : ByteArray) : Prop where
  tie : TIE s l lasts dn
  la : dn = false → lasts ≤ 9223372036854775807
  l1 : l.length < 80000
  ns : nm.size ≤ maxLen
  lf : s.ar = true → 0 ≤ s.lf
  fits : (usedF s.l : Int) ≤ 16777216
theorem PP.l2 (h : PP w s l lasts dn nm) : s.l.length < 100000 := by rw [h.tie.cm.len]; have := h.l1; omega
theorem pair_create (hp : PP w s l lasts dn nm) : PAIR w d rb s v l lasts dn 11 #[pv d, .string nm] 0 nm bv n nt := by
  intro W h
  refine (create_any W _ d s h.dk h.bel.size nm hp.ns hp.l2).mono ?_
  rintro e W' ⟨rfl, m', ho⟩
  refine ⟨_, _, rfl, ho, ?_, ?_⟩
  · show (crS s nm).room = s.room
    unfold crS
    split
    · split
      · exact aft_room s 1
      · exact aft_room s 1
    · rfl
  · unfold crE crS
    rcases look_tie hp.tie nm with ⟨rfl, hf⟩ | ⟨rfl, hf, ha⟩ | ⟨rfl, hf, i, x, ha, hx, hn, hc, hm⟩
    · rw [hf]
      exact fit_dn hp.l1 0 (hp.tie.m m')
    · rw [hf]
      rcases tie_step hp.tie hp.lf with ⟨h1, l2, hr, ht⟩ | ⟨h1, l2, hr, ht⟩
      · simp only [show ¬ ((8 : Int) = 0) by decide, show ¬ ((8 : Int) = 12) by decide, if_true, if_false, if_pos h1]
        exact fun W h => (do_cstop W v l s.room lasts h.rd hp.l1 nm nt bv n ha (hp.la rfl) l2 true hr).mono fun e W' ⟨he, hb⟩ => ⟨v, l, l2, true, he, .inr ⟨rfl, rfl⟩, hb, ht.m m', by omega⟩
      · simp only [show ¬ ((8 : Int) = 0) by decide, show ¬ ((8 : Int) = 12) by decide, if_true, if_false, if_neg h1]
        exact fun W h2 => (do_create W v l s.room lasts h2.rd hp.l1 nm nt bv n ha (hp.la rfl) l2 false hr).mono fun e W' ⟨u, he, hl, hb⟩ => ⟨u, _, l2, false, he, .inl hl, hb, (ht.with_l (hp.tie.cm.set h.dk.rise (f := zf nm) (g := zf nm) rfl)).m m', by rw [ins_len]; have := drop_len l nm; omega⟩
    · rw [hf]
      exact fit_has hp.l1 i ha (hp.tie.m m')
theorem tie_same (h : TIE s l lasts dn) : TIE s l lasts dn := h
theorem bytes_le (hp : PP w s l lasts dn nm) : ∀ x ∈ l, x.b.length ≤ 100000000 := fun x hx => by
  have h1 := usedF_mem hx
  have h2 := hp.tie.cm.used
  have := hp.fits
  omega
theorem pair_sync (hp : PP w s l lasts dn nm) : PAIR w d rb s v l lasts dn 17 #[pv d, .string nm] 2 nm bv n nt := by
  intro W h
  rcases look_tie hp.tie nm with ⟨rfl, hf⟩ | ⟨rfl, hf, ha⟩ | ⟨rfl, hf, i, x, ha, hx, hn, hc, hm⟩
  · refine (sync_stop W _ d s h.dk nm hp.ns (.inl hf)).mono ?_
    rintro e W' ⟨rfl, hb⟩
    exact ⟨s, _, rfl, Out.still h.dk hb, rfl, by rw [hf]; exact fit_dn hp.l1 2 hp.tie⟩
  · refine (sync_stop W _ d s h.dk nm hp.ns (.inr hf)).mono ?_
    rintro e W' ⟨rfl, hb⟩
    exact ⟨s, _, rfl, Out.still h.dk hb, rfl, by rw [hf]; exact fit_none hp.l1 2 (by decide) ha hp.tie⟩
  · refine (sync_go W _ d s h.dk nm hp.ns hp.l2 hf).mono ?_
    rintro e W' (⟨h1, rfl, ho⟩ | ⟨h1, rfl, ho⟩)
    · refine ⟨_, _, rfl, ho, aft_room s 1, ?_⟩
      rcases tie_step hp.tie hp.lf with ⟨_, l2, hr, ht⟩ | ⟨h2, _⟩
      · exact fun W h2 => (do_stop2 W v l s.room lasts h2.rd hp.l1 nm nt bv n i x ha hx (bytes_le hp) (hp.la rfl) l2 true hr).mono fun e W' ⟨he, hb⟩ => ⟨v, l, l2, true, he, .inr ⟨rfl, rfl⟩, hb, ht, by omega⟩
      · exact absurd h1 h2
    · refine ⟨_, _, rfl, ho, aft_room s 1, ?_⟩
      rcases tie_step hp.tie hp.lf with ⟨h2, _⟩ | ⟨_, l2, hr, ht⟩
      · exact absurd h2 h1
      · exact fun W h2 => (do_sync W v l s.room lasts h2.rd hp.l1 nm nt bv n i x ha hx (bytes_le hp) (hp.la rfl) l2 false hr).mono fun e W' ⟨u, a5, c5, he, hl, hb⟩ => ⟨u, _, l2, false, he, .inl hl, hb, ht.with_l (hp.tie.cm.set h.dk.rise (f := cutF (fval s nm) (fval s nm).b.length) (g := ⟨nm, a5, c5, x.b, (x.b.length : Int)⟩) (core_mk ((core_n hc).trans hn) (by show (fval s nm).b.take _ = x.b; rw [List.take_length]; exact core_b hc) (by show (((fval s nm).b.length : Nat) : Int) = (x.b.length : Int); rw [core_b hc]))), by rw [ins_len]; have := drop_len l nm; omega⟩
theorem pair_remove (hp : PP w s l lasts dn nm) : PAIR w d rb s v l lasts dn 22 #[pv d, .string nm] 5 nm bv n nt := by
  intro W h
  rcases look_tie hp.tie nm with ⟨rfl, hf⟩ | ⟨rfl, hf, ha⟩ | ⟨rfl, hf, i, x, ha, hx, hn, hc, hm⟩
  · refine (remove_stop W _ d s h.dk nm hp.ns (.inl hf)).mono ?_
    rintro e W' ⟨rfl, hb⟩
    exact ⟨s, _, rfl, Out.still h.dk hb, rfl, by rw [hf]; exact fit_dn hp.l1 5 hp.tie⟩
  · refine (remove_stop W _ d s h.dk nm hp.ns (.inr hf)).mono ?_
    rintro e W' ⟨rfl, hb⟩
    exact ⟨s, _, rfl, Out.still h.dk hb, rfl, by rw [hf]; exact fit_none hp.l1 5 (by decide) ha hp.tie⟩
  · refine (remove_go W _ d s h.dk nm hp.ns hp.l2 hf).mono ?_
    rintro e W' (⟨h1, rfl, ho⟩ | ⟨h1, rfl, ho⟩)
    · refine ⟨_, _, rfl, ho, aft_room s 1, ?_⟩
      rcases tie_step hp.tie hp.lf with ⟨_, l2, hr, ht⟩ | ⟨h2, _⟩
      · exact fun W h2 => (do_stop5 W v l s.room lasts h2.rd hp.l1 nm nt bv n i x ha hx (bytes_le hp) (hp.la rfl) l2 true hr).mono fun e W' ⟨he, hb⟩ => ⟨v, l, l2, true, he, .inr ⟨rfl, rfl⟩, hb, ht, by omega⟩
      · exact absurd h1 h2
    · refine ⟨_, _, rfl, ho, aft_room s 1, ?_⟩
      rcases tie_step hp.tie hp.lf with ⟨h2, _⟩ | ⟨_, l2, hr, ht⟩
      · exact absurd h2 h1
      · exact fun W h2 => (do_remove W v l s.room lasts h2.rd hp.l1 nm nt bv n i x ha hx (bytes_le hp) (hp.la rfl) l2 false hr).mono fun e W' ⟨u, he, hl, hb⟩ => ⟨u, _, l2, false, he, .inl hl, hb, ht.with_l (hp.tie.cm.drop nm), by have := drop_len l nm; omega⟩
theorem pair_rename (hp : PP w s l lasts dn nm) (hnt : nt.size ≤ maxLen) : PAIR w d rb s v l lasts dn 21 #[pv d, .string nm, .string nt] 4 nm bv n nt := by
  intro W h
  rcases look_tie hp.tie nm with ⟨rfl, hf⟩ | ⟨rfl, hf, ha⟩ | ⟨rfl, hf, i, x, ha, hx, hn, hc, hm⟩
  · refine (rename_stop W _ d s h.dk nm hp.ns nt (.inl hf)).mono ?_
    rintro e W' ⟨rfl, hb⟩
    exact ⟨s, _, rfl, Out.still h.dk hb, rfl, by rw [hf]; exact fit_dn hp.l1 4 hp.tie⟩
  · refine (rename_stop W _ d s h.dk nm hp.ns nt (.inr hf)).mono ?_
    rintro e W' ⟨rfl, hb⟩
    exact ⟨s, _, rfl, Out.still h.dk hb, rfl, by rw [hf]; exact fit_none hp.l1 4 (by decide) ha hp.tie⟩
  · refine (rename_go W _ d s h.dk nm nt hp.ns hnt hp.l2 hf).mono ?_
    rintro e W' (⟨h1, rfl, ho⟩ | ⟨h1, rfl, ho⟩)
    · refine ⟨_, _, rfl, ho, aft_room s 1, ?_⟩
      rcases tie_step hp.tie hp.lf with ⟨_, l2, hr, ht⟩ | ⟨h2, _⟩
      · exact fun W h2 => (do_stop4 W v l s.room lasts h2.rd hp.l1 nm nt bv n i x ha hx (bytes_le hp) (hp.la rfl) l2 true hr).mono fun e W' ⟨he, hb⟩ => ⟨v, l, l2, true, he, .inr ⟨rfl, rfl⟩, hb, ht, by omega⟩
      · exact absurd h1 h2
    · refine ⟨_, _, rfl, ho, aft_room s 1, ?_⟩
      rcases tie_step hp.tie hp.lf with ⟨h2, _⟩ | ⟨_, l2, hr, ht⟩
      · exact absurd h2 h1
      · exact fun W h2 => (do_rename W v l s.room lasts h2.rd hp.l1 nm nt bv n i x ha hx (bytes_le hp) (hp.la rfl) l2 false hr).mono fun e W' ⟨u, a5, c5, he, hl, hb⟩ => ⟨u, _, l2, false, he, .inl hl, hb, ht.with_l ((hp.tie.cm.drop nm).set (h.dk.rise.filter _) (f := ⟨nt, (fval s nm).a, (fval s nm).c, (fval s nm).b, (fval s nm).s⟩) (g := ⟨nt, a5, c5, x.b, x.s⟩) (core_mk rfl (by exact (have e := core_b hc; e)) (by exact (have e := core_s hc; e)))), by rw [ins_len]; have := drop_len l nm; have := drop_len (dropF l nm) nt; omega⟩
theorem pair_cut (hp : PP w s l lasts dn nm) : PAIR w d rb s v l lasts dn 20 #[pv d, .string nm, .int .i64 n] 3 nm bv n nt := by
  intro W h
  rcases look_tie hp.tie nm with ⟨rfl, hf⟩ | ⟨rfl, hf, ha⟩ | ⟨rfl, hf, i, x, ha, hx, hn, hc, hm⟩
  · refine (cut_stop W _ d s h.dk nm hp.ns n (.inl hf)).mono ?_
    rintro e W' ⟨rfl, hb⟩
    exact ⟨s, _, rfl, Out.still h.dk hb, rfl, by rw [hf]; exact fit_dn hp.l1 3 hp.tie⟩
  · refine (cut_stop W _ d s h.dk nm hp.ns n (.inr hf)).mono ?_
    rintro e W' ⟨rfl, hb⟩
    exact ⟨s, _, rfl, Out.still h.dk hb, rfl, by rw [hf]; exact fit_none hp.l1 3 (by decide) ha hp.tie⟩
  · by_cases hbad : n < 0 ∨ (x.b.length : Int) < n
    · refine (cut_arg W _ d s h.dk nm hp.ns n hf (by rw [core_b hc]; exact hbad)).mono ?_
      rintro e W' ⟨rfl, hb⟩
      exact ⟨s, _, rfl, Out.still h.dk hb, rfl, fun W h2 => (do_cutbad W v l s.room lasts h2.rd hp.l1 nm nt bv n i x ha hx (bytes_le hp) hbad).mono fun e W' ⟨he, hb⟩ => ⟨v, l, lasts, false, he, .inr ⟨rfl, rfl⟩, hb, hp.tie, by omega⟩⟩
    · obtain ⟨k, rfl⟩ : ∃ k : Nat, n = (k : Int) := ⟨n.toNat, by omega⟩
      have hk : k ≤ x.b.length := by omega
      refine (cut_go W _ d s h.dk nm hp.ns hp.l2 k hf (by rw [core_b hc]; exact hk)).mono ?_
      rintro e W' (⟨h1, rfl, ho⟩ | ⟨h1, rfl, ho⟩)
      · refine ⟨_, _, rfl, ho, aft_room s 1, ?_⟩
        rcases tie_step hp.tie hp.lf with ⟨_, l2, hr, ht⟩ | ⟨h2, _⟩
        · exact fun W h2 => (do_stop3 W v l s.room lasts h2.rd hp.l1 nm nt bv (k : Int) i x ha hx (bytes_le hp) ⟨by omega, by omega⟩ (hp.la rfl) l2 true hr).mono fun e W' ⟨he, hb⟩ => ⟨v, l, l2, true, he, .inr ⟨rfl, rfl⟩, hb, ht, by omega⟩
        · exact absurd h1 h2
      · refine ⟨_, _, rfl, ho, aft_room s 1, ?_⟩
        rcases tie_step hp.tie hp.lf with ⟨h2, _⟩ | ⟨_, l2, hr, ht⟩
        · exact absurd h2 h1
        · exact fun W h2 => (do_cut W v l s.room lasts h2.rd hp.l1 nm nt bv 0 i x ha hx (bytes_le hp) k hk (hp.la rfl) l2 false hr).mono fun e W' ⟨u, a5, c5, he, hl, hb⟩ => ⟨u, _, l2, false, he, .inl hl, hb, ht.with_l (hp.tie.cm.set h.dk.rise (f := cutF (fval s nm) k) (g := ⟨nm, a5, c5, x.b.take k, (k : Int)⟩) (core_mk ((core_n hc).trans hn) (by show (fval s nm).b.take k = x.b.take k; rw [core_b hc]) rfl)), by rw [ins_len]; have := drop_len l nm; omega⟩
theorem pair_append {bs : List Int} (hp : PP w s l lasts dn nm) (hro : 0 ≤ s.room ∧ s.room ≤ 16777216) (hbv : LiesK encB 1 w bv bs) (hbl : bs.length ≤ 1000) : PAIR w d rb s v l lasts dn 13 #[pv d, .string nm, bv] 1 nm bv n nt := by
  intro W h
  have hv := hbv.keep h.bel (Nat.le_refl _)
  have hu : usedF l ≤ 100000000 := by rw [← hp.tie.cm.used]; have := hp.fits; omega
  rcases look_tie hp.tie nm with ⟨rfl, hf⟩ | ⟨rfl, hf, ha⟩ | ⟨rfl, hf, i, x, ha, hx, hn, hc, hm⟩
  · refine (append_stop W _ d s h.dk nm hp.ns bv (.inl hf)).mono ?_
    rintro e W' ⟨rfl, hb⟩
    exact ⟨s, _, rfl, Out.still h.dk hb, rfl, by rw [hf]; exact fit_dn hp.l1 1 hp.tie⟩
  · refine (append_stop W _ d s h.dk nm hp.ns bv (.inr hf)).mono ?_
    rintro e W' ⟨rfl, hb⟩
    exact ⟨s, _, rfl, Out.still h.dk hb, rfl, by rw [hf]; exact fit_none hp.l1 1 (by decide) ha hp.tie⟩
  · by_cases hfull : s.room - (usedF s.l : Int) < (bs.length : Int)
    · refine (append_full W _ d s h.dk nm hp.ns bv bs hv hf hfull).mono ?_
      rintro e W' ⟨rfl, hb⟩
      refine ⟨s, _, rfl, Out.still h.dk hb, rfl, fun W h2 => (do_full W v l s.room lasts h2.rd hp.l1 nm nt bv n i x ha hx (bytes_le hp) bs (hbv.keep h2.bel (Nat.le_refl _)) hu hro (by rw [← hp.tie.cm.used]; exact hfull)).mono fun e W' ⟨he, hb⟩ => ⟨v, l, lasts, false, he, .inr ⟨rfl, rfl⟩, hb, hp.tie, by omega⟩⟩
    · refine (append_go W _ d s h.dk h.bel.size nm hp.ns hp.l2 bv bs hv ?_ (by omega) hf hfull).mono ?_
      · intro hne j q r
        have := (h.dk.base j r).1
        have := lt_of_own hbv hne q
        omega
      · rintro e W' ⟨rfl, a', c', ho⟩
        refine ⟨_, _, rfl, ho, aft_room s _, ?_⟩
        obtain ⟨e1, e2, ht⟩ := tie_take hp.tie hp.lf bs.length
        rw [e1, e2]
        exact fun W h2 => (do_append W v l s.room lasts h2.rd hp.l1 nm nt bv n i x ha hx (bytes_le hp) bs (hbv.keep h2.bel (Nat.le_refl _)) hbl hu hro (by rw [← hp.tie.cm.used]; exact hfull) (hp.la rfl)).mono fun e W' ⟨u, a5, c5, he, hl, hb⟩ => ⟨u, _, _, _, he, .inl hl, hb, ht.with_l (hp.tie.cm.set h.dk.rise (f := ⟨nm, a', c', (fval s nm).b ++ bs.take (apN lasts bs.length), (fval s nm).s⟩) (g := ⟨nm, a5, c5, x.b ++ bs.take (apN lasts bs.length), x.s⟩) (core_mk rfl (by show _ ++ _ = _ ++ _; rw [core_b hc]) (by exact (have e := core_s hc; e)))), by rw [ins_len]; have := drop_len l nm; omega⟩
end
end Go.Proofs.Ytoddofcmdbifpaa

set_option linter.unusedVariables false
set_option linter.unusedSimpArgs false
set_option maxRecDepth 100000
namespace Go.Proofs.Ytoddofcmdbifpaa
open Go.RowKit Go.WideMaps Go.Maps

theorem rn_box {V0 V W4 W5 : World} {v u : Value} {l l' : List Fl} {b : Nat} (h0 : RD V0 v l) (hv : V0.heap.size ≤ V.heap.size) (h : RN V W4 l u l') (hf : Far (fun k => k = b) W4 W5) (hb : (V0.heap.size ≤ b ∧ b < V.heap.size) ∨ (V0.heap.size ≤ b ∧ W4.heap.size ≤ b)) : RN V0 W5 l u l' := by
  have e1 : l' ≠ [] → ∀ j, u.ownBlock = some j → j ≠ b := fun hne j q r => by
    have h1 := h.top hne j q
    have h2 := lt_of_own h.rd.1 hne q
    omega
  have e2 : ∀ x ∈ l', x.b ≠ [] → ∀ j, x.v.ownBlock = some j → j ≠ b := fun x hx hne j q r => by
    have h2 := lt_of_own (h.rd.2 x hx) hne q
    rcases h.el x hx with ⟨y, hy, hq, e⟩ | h1
    · have h3 := lt_of_own (h0.2 y hy) (hq hne) (j := j) (by rw [← e]; exact q)
      omega
    · have h1 := h1 hne j q
      omega
  exact ⟨h.rd.far hf (fun hne j q r => e1 hne j q r) (fun x hx hne j q r => e2 x hx hne j q r), fun hne j q => Nat.le_trans hv (h.top hne j q), fun x hx => (h.el x hx).imp id (fun h1 hne j q => Nat.le_trans hv (h1 hne j q))⟩
theorem PH.fin {w V W5 : World} {d rb : Nat} {t : DS} {v u : Value} {l l' : List Fl} {room lasts lasts' : Int} {dn dn' : Bool} (h : PH w V d rb t v l room lasts dn) (hb : Below V.heap.size V W5) (hn : RN V W5 l u l' ∨ (u = v ∧ l' = l)) : PH w (sets4 W5 rb u (.int .i64 room) (.int .i64 lasts') (.bool dn')) d rb t u l' room lasts' dn' := by
  rcases hn with hn | ⟨rfl, rfl⟩
  · exact h.put hb hn lasts' dn'
  · exact h.same hb lasts' dn'
theorem run_store29 (W : World) (g : Nat) (v : Value) (r l : Int) (d : Bool) (h : RB W g v r l d) (a : Option Addr) (n c : Nat) (r' l' : Int) (d' : Bool) : (Instr.storeAt 29 (.pointer (some ⟨g, 0, none⟩)) (rdv (.slice a n c) r' l' d')).run Try.prog W = .ok () (sets4 W g (.slice a n c) (.int .i64 r') (.int .i64 l') (.bool d')) := by
  obtain ⟨c0, c1, c2, c3⟩ := h.cells
  obtain ⟨f0, f1, f2, f3⟩ := h.free
  unfold sets4
  go_simp
theorem bnek (a b : Int) (h : a ≠ b) : (a == b) = false := by simpa using h
theorem run_alloc29 (W : World) : (Instr.alloc 29 true (.tuple #[])).run Try.prog W = .ok (.pointer (some ⟨W.heap.size, 0, none⟩)) (W.alloc (.cells #[.slice none 0 0, .int .i64 0, .int .i64 0, .bool false] 29)) := by go_simp
theorem ldRD {W : World} {g : Nat} {a : Option Addr} {n c : Nat} {r l : Int} {d : Bool} (h : RB W g (.slice a n c) r l d) : (Instr.loadAt 29 (.pointer (some ⟨g, 0, none⟩))).run Try.prog W = .ok (rdv (.slice a n c) r l d) W := by
  obtain ⟨c0, c1, c2, c3⟩ := h.cells
  go_simp
theorem ldN34 {W : World} {g o : Nat} {a : Option Addr} {n c : Nat} (h : W.cell? ⟨g, o, none⟩ = some (.slice a n c)) : (Instr.loadAt 34 (.pointer (some ⟨g, o, none⟩))).run Try.prog W = .ok (.slice a n c) W := by go_simp
theorem RB.keep {W W' : World} {E g : Nat} {v : Value} {r l : Int} {d : Bool} (h : RB W g v r l d) (hb : Below E W W') (hE : W.heap.size ≤ E) : RB W' g v r l d := (hb.block g (Nat.lt_of_lt_of_le (lt_of_block h) hE)).trans h
def AcOk2 (W : World) (x : Ac) : Prop := AcOk W x ∧ (0 ≤ x.na ∧ x.na ≤ 255) ∧ (0 ≤ x.t2 ∧ x.t2 ≤ 255) ∧ (-9223372036854775808 ≤ x.k ∧ x.k ≤ 9223372036854775807)
theorem AB.all {w : World} {g : Nat} {x : Ac} (h : AB w g x) : w.cell? ⟨g, 0, none⟩ = some (.int .i64 x.k) ∧ w.cell? ⟨g, 1, none⟩ = some (.int .u8 x.na) ∧ w.cell? ⟨g, 2, none⟩ = some (.int .u8 x.t2) ∧ w.cell? ⟨g, 3, none⟩ = some (.int .i64 x.n) ∧ w.cell? ⟨g, 4, none⟩ = some (.slice x.ba x.b.length x.bc) ∧ w.cell? ⟨g, 5, none⟩ = some (.slice x.ka x.kp.length x.kc) := by
  refine ⟨?_, ?_, ?_, ?_, ?_, ?_⟩ <;> (rw [cell_of_row _ _ _ _ _ _ h]; rfl)
theorem file_le (n : Int) : (fileN n).size ≤ maxLen := by
  unfold fileN
  split
  · decide
  · split <;> decide
theorem file_later {W : World} (z : Later W) (n : Int) (hn : 0 ≤ n ∧ n ≤ 255) : Calls Try.prog 26 #[.int .u8 n] z.w fun e w'' => e = .returned (.string (fileN n)) ∧ ∃ y : Later W, w'' = y.w :=
  later_call ((file_any z.w n hn).mono fun e w' h => ⟨h.1, by rw [← h.2]; exact Below.refl _ _⟩)
/-- What a call leaves. -/
def DONE (w : World) (d rb : Nat) (s : DS) (l : List Fl) (W' : World) : Prop := ∃ t v l' lasts dn, PI w W' d rb t v l' lasts dn ∧ t.room = s.room ∧ l'.length ≤ l.length + 1
theorem PI.pp {w W : World} {d rb : Nat} {s : DS} {v : Value} {l : List Fl} {lasts : Int} {dn : Bool} (h : PI w W d rb s v l lasts dn) (hl : l.length < 80000) (nm : ByteArray) (hn : nm.size ≤ maxLen) : PP w s l lasts dn nm := by
  obtain ⟨l1, l2, l3⟩ := h.dk.left
  refine ⟨h.tie, fun e => ?_, hl, hn, l3, Int.le_trans h.dk.fits h.dk.roomok.2⟩
  rw [h.tie.lst e]
  split <;> omega
end Go.Proofs.Ytoddofcmdbifpaa
