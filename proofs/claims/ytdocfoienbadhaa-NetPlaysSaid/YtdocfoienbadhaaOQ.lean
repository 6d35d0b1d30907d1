/- Any act, done to both. -/
import Derived.Test.YtdocfoienbadhaaOJ
import Derived.Test.YtdocfoienbadhaaOK
import Derived.Test.YtdocfoienbadhaaOL
import Derived.Test.YtdocfoienbadhaaOM
import Derived.Test.YtdocfoienbadhaaON0
import Derived.Test.YtdocfoienbadhaaON1
import Derived.Test.YtdocfoienbadhaaON2
import Derived.Test.YtdocfoienbadhaaOO
import Derived.Test.YtdocfoienbadhaaOP
set_option linter.unusedVariables false
namespace Go.Proofs.Ytdocfoienbadhaa
open Go.RowKit

def Both (w0 : World) (p q : Nat) (lost : Int) (e : Ending) (w' : World) : Prop := e = .returned (.bool true) ∧ ∃ fv' rv' fl' rl' lost', DS w0 w' p q fv' rv' fl' rl' lost' ∧ lost' ≤ lost + 1
theorem both {w0 : World} {p q : Nat} {lost lost' : Int} {e : Ending} {w' : World} (hl : lost' ≤ lost + 1) (h : e = .returned (.bool true) ∧ ∃ fv' rv' fl' rl', DS w0 w' p q fv' rv' fl' rl' lost') : Both w0 p q lost e w' := by
  obtain ⟨h1, a, b, c, d, h2⟩ := h
  exact ⟨h1, a, b, c, d, lost', h2, hl⟩
section
variable {w0 : World} (w : World) (p q : Nat) (fv rv : Value) (fl rl : List Fl) (lost : Int) (h : DS w0 w p q fv rv fl rl lost) (k m b d : Int) (ab : Option Addr) (bs : List Nat) (cb : Nat) (hu : Bool)
include h
theorem do_send (hlo : lost < 100000) (kd : Int) (hkd : kd = 0 ∨ kd = 1 ∨ kd = 2) (hf : FlN (Or1 (NOwn p fv fl) q) w ⟨d, .slice ab bs.length cb, bs, hu⟩) :
    Calls Try.prog 7 #[.pointer (some ⟨p, 0, none⟩), .pointer (some ⟨q, 0, none⟩), .agg #[.int .i64 kd, .int .i64 k, .int .i64 m, .int .i64 b, .int .i64 d, .slice ab bs.length cb, .bool hu]] w fun e w' => Both w0 p q lost e w' := by
  have hl := pu_len h.pure
  have h256 := h.net.len
  by_cases hlt : fl.length < 256
  · have CR : ∀ (N : Nat → Prop) (W : World), (∀ j, N j → j < W.heap.size) → RowsN N W rv rl → FlN N W ⟨d, .slice ab bs.length cb, bs, hu⟩ → Calls Try.prog 19 #[.agg #[rv, .int .i64 lost], .agg #[.int .i64 d, .slice ab bs.length cb, .bool hu]] W fun e w' => ∃ rv' rl', e = .returned (.tuple #[.agg #[rv', .int .i64 lost], .int .i64 0]) ∧ RowsN N w' rv' rl' ∧ Below W.heap.size W w' ∧ rl'.map pu = (rl ++ [(⟨d, .slice ab bs.length cb, bs, hu⟩ : Fl)]).map pu :=
      fun N W hN hr hf => (rsend_in N W hN rv rl lost hr (by omega) _ hf).mono fun e w' ⟨rv', h1, h2, h3⟩ => ⟨rv', _, h1, h2, h3, rfl⟩
    have CP : ∀ (W : World), NetAt w0.heap.size W p fv fl lost → Below w0.heap.size w0 W → Lies W (.slice ab bs.length cb) bs → Calls Try.prog 13 #[.pointer (some ⟨p, 0, none⟩), .agg #[.int .i64 d, .slice ab bs.length cb, .bool hu]] W fun e w' => ∃ fv' fl', e = .returned (.int .i64 0) ∧ NetAt w0.heap.size w' p fv' fl' lost ∧ Below w0.heap.size w0 w' ∧ Kp W w' p fv fl fv' fl' ∧ fl'.map pu = (rl ++ [(⟨d, .slice ab bs.length cb, bs, hu⟩ : Fl)]).map pu :=
      fun W hn hb hl => (send_k W p fv fl lost hn hb hlt d _ bs hu hl hf.byt hf.len).mono fun e w' ⟨v', r, h1, h2, h3, h4⟩ => ⟨v', _, h1, h2, h3, h4, pu_snoc h.pure rfl⟩
    rcases hkd with rfl | rfl | rfl
    · exact (does_send0 w p q fv rv fl rl lost h k m b d ab bs cb hu hf _ lost 0 CR CP).mono fun e w' hx => both (by omega) hx
    · exact (does_send1 w p q fv rv fl rl lost h k m b d ab bs cb hu hf _ lost 0 CR CP).mono fun e w' hx => both (by omega) hx
    · exact (does_send2 w p q fv rv fl rl lost h k m b d ab bs cb hu hf _ lost 0 CR CP).mono fun e w' hx => both (by omega) hx
  · have he : fl.length = 256 := by omega
    have CR : ∀ (N : Nat → Prop) (W : World), (∀ j, N j → j < W.heap.size) → RowsN N W rv rl → FlN N W ⟨d, .slice ab bs.length cb, bs, hu⟩ → Calls Try.prog 19 #[.agg #[rv, .int .i64 lost], .agg #[.int .i64 d, .slice ab bs.length cb, .bool hu]] W fun e w' => ∃ rv' rl', e = .returned (.tuple #[.agg #[rv', .int .i64 (lost + 1)], .int .i64 7]) ∧ RowsN N w' rv' rl' ∧ Below W.heap.size W w' ∧ rl'.map pu = rl.map pu :=
      fun N W hN hr hf => (rsend_full N W rv rl lost hr (by omega) h.net.lo.1 hlo _ hf).mono fun e w' ⟨h1, h3⟩ => ⟨rv, rl, h1, hr.step h3, h3, rfl⟩
    have CP : ∀ (W : World), NetAt w0.heap.size W p fv fl lost → Below w0.heap.size w0 W → Lies W (.slice ab bs.length cb) bs → Calls Try.prog 13 #[.pointer (some ⟨p, 0, none⟩), .agg #[.int .i64 d, .slice ab bs.length cb, .bool hu]] W fun e w' => ∃ fv' fl', e = .returned (.int .i64 7) ∧ NetAt w0.heap.size w' p fv' fl' (lost + 1) ∧ Below w0.heap.size w0 w' ∧ Kp W w' p fv fl fv' fl' ∧ fl'.map pu = rl.map pu :=
      fun W hn hb hl => (sendfull_k W p fv fl lost hn hb he hlo d ab bs.length cb hu).mono fun e w' ⟨h1, h2, h3, h4⟩ => ⟨fv, fl, h1, h2, h3, h4, h.pure⟩
    rcases hkd with rfl | rfl | rfl
    · exact (does_send0 w p q fv rv fl rl lost h k m b d ab bs cb hu hf _ (lost + 1) 7 CR CP).mono fun e w' hx => both (by omega) hx
    · exact (does_send1 w p q fv rv fl rl lost h k m b d ab bs cb hu hf _ (lost + 1) 7 CR CP).mono fun e w' hx => both (by omega) hx
    · exact (does_send2 w p q fv rv fl rl lost h k m b d ab bs cb hu hf _ (lost + 1) 7 CR CP).mono fun e w' hx => both (by omega) hx
theorem do_take : Calls Try.prog 7 #[.pointer (some ⟨p, 0, none⟩), .pointer (some ⟨q, 0, none⟩), .agg #[.int .i64 3, .int .i64 k, .int .i64 m, .int .i64 b, .int .i64 d, .slice ab bs.length cb, .bool hu]] w fun e w' => Both w0 p q lost e w' := by
  have hl := pu_len h.pure
  by_cases hk : 0 ≤ k ∧ k < (fl.length : Int)
  · obtain ⟨i, rfl⟩ : ∃ i : Nat, k = (i : Int) := ⟨k.toNat, by omega⟩
    have hi : i < fl.length := by omega
    obtain ⟨f, hf⟩ : ∃ f, fl[i]? = some f := ⟨_, List.getElem?_eq_getElem hi⟩
    obtain ⟨g, hg, e1, e2, e3⟩ := pu_at h.pure hf
    obtain ⟨a2, c2, hgv⟩ := (h.rows.fls g (List.mem_iff_getElem?.2 ⟨i, hg⟩)).shape
    obtain ⟨fd, fb, fs, fh⟩ := f
    obtain ⟨gd, gb, gs, gh⟩ := g
    simp only at e1 e2 e3 hgv
    subst e1 e2 e3 hgv
    refine (does_take w p q fv rv fl rl lost h (i : Int) m b d ab bs cb hu (takeL rl (i : Int)) 0 gd a2 gs c2 gh ?_ ?_ ?_).mono fun e w' ⟨h1, fv', rv', fl', h2⟩ => both (by omega) ⟨h1, fv', rv', fl', _, h2⟩
    · intro N W hr
      exact (hr.fls _ (List.mem_iff_getElem?.2 ⟨i, hg⟩)).lies
    · intro N W hN hr
      exact rtake_any N W hN rv rl lost hr (i : Int) gd a2 gs.length c2 gh 0 fun W' hb => rlook_in N W' rv rl lost (hr.step hb) i _ hg
    · intro W hn hb
      exact (take_k W p fv fl lost hn hb i _ hf).mono fun e w' ⟨v', r, h1, h2, h3, h4, h5⟩ => ⟨v', _, r, h1, h2, h3, h4, h5, pu_take h.pure _⟩
  · refine (does_take w p q fv rv fl rl lost h k m b d ab bs cb hu (takeL rl k) 8 0 none [] 0 false ?_ ?_ ?_).mono fun e w' ⟨h1, fv', rv', fl', h2⟩ => both (by omega) ⟨h1, fv', rv', fl', _, h2⟩
    · intro N W hr
      exact ⟨Lies.nil W, fun _ _ _ _ _ hx => absurd rfl hx⟩
    · intro N W hN hr
      exact rtake_any N W hN rv rl lost hr k 0 none 0 0 false 8 fun W' hb => rlook_out N W' rv rl lost (hr.step hb) k (by omega)
    · intro W hn hb
      exact (take_out W p fv fl lost hn k hk).mono fun e w' ⟨h1, h2⟩ => ⟨fv, fl, .slice none 0 0, h1, hn.step h2, hb.trans (h2.mono hb.size), World.ownsRow_nil _ _ _ _, Kp.of_below h2, by rw [takeL_out (show ¬ (0 ≤ k ∧ k < (rl.length : Int)) by omega)]; exact h.pure⟩
theorem do_twice (hlo : lost < 100000) : Calls Try.prog 7 #[.pointer (some ⟨p, 0, none⟩), .pointer (some ⟨q, 0, none⟩), .agg #[.int .i64 4, .int .i64 k, .int .i64 m, .int .i64 b, .int .i64 d, .slice ab bs.length cb, .bool hu]] w fun e w' => Both w0 p q lost e w' := by
  have hl := pu_len h.pure
  have h256 := h.net.len
  by_cases hk : 0 ≤ k ∧ k < (fl.length : Int)
  · obtain ⟨i, rfl⟩ : ∃ i : Nat, k = (i : Int) := ⟨k.toNat, by omega⟩
    have hi : i < fl.length := by omega
    obtain ⟨f, hf⟩ : ∃ f, fl[i]? = some f := ⟨_, List.getElem?_eq_getElem hi⟩
    obtain ⟨g, hg, e1, e2, e3⟩ := pu_at h.pure hf
    have hfg : pu f = pu g := by unfold pu; rw [e1, e2, e3]
    by_cases hlt : fl.length < 256
    · refine (does_twice w p q fv rv fl rl lost h (i : Int) m b d ab bs cb hu ((rl ++ [g]).map pu) lost 0 ?_ ?_).mono fun e w' hx => both (by omega) hx
      · intro N W hN hr
        exact (rtwice_in N W hN rv rl lost hr (by omega) i g hg).mono fun e w' ⟨rv', h1, h2, h3⟩ => ⟨rv', _, h1, h2, h3, rfl⟩
      · intro W hn hb
        exact (twice_k W p fv fl lost hn hb hlt i f hf).mono fun e w' ⟨v', r, h1, h2, h3, h4⟩ => ⟨v', _, h1, h2, h3, h4, pu_snoc h.pure hfg⟩
    · have he : fl.length = 256 := by omega
      refine (does_twice w p q fv rv fl rl lost h (i : Int) m b d ab bs cb hu (rl.map pu) (lost + 1) 7 ?_ ?_).mono fun e w' hx => both (by omega) hx
      · intro N W hN hr
        exact (rtwice_full N W hN rv rl lost hr (by omega) h.net.lo.1 hlo i g hg).mono fun e w' ⟨h1, h3⟩ => ⟨rv, rl, h1, hr.step h3, h3, rfl⟩
      · intro W hn hb
        exact (twicefull_k W p fv fl lost hn hb he hlo i f hf).mono fun e w' ⟨h1, h2, h3, h4⟩ => ⟨fv, fl, h1, h2, h3, h4, h.pure⟩
  · refine (does_twice w p q fv rv fl rl lost h k m b d ab bs cb hu (rl.map pu) lost 8 ?_ ?_).mono fun e w' hx => both (by omega) hx
    · intro N W hN hr
      exact (rtwice_out N W rv rl lost hr k (by omega)).mono fun e w' ⟨h1, h3⟩ => ⟨rv, rl, h1, hr.step h3, h3, rfl⟩
    · intro W hn hb
      exact (twice_out W p fv fl lost hn hb k hk).mono fun e w' ⟨h1, h2⟩ => ⟨fv, fl, h1, hn.step h2, hb.trans (h2.mono hb.size), Kp.of_below h2, h.pure⟩
theorem do_swap : Calls Try.prog 7 #[.pointer (some ⟨p, 0, none⟩), .pointer (some ⟨q, 0, none⟩), .agg #[.int .i64 5, .int .i64 k, .int .i64 m, .int .i64 b, .int .i64 d, .slice ab bs.length cb, .bool hu]] w fun e w' => Both w0 p q lost e w' := by
  have hl := pu_len h.pure
  by_cases hk : (0 ≤ k ∧ k < (fl.length : Int)) ∧ (0 ≤ m ∧ m < (fl.length : Int))
  · obtain ⟨i, rfl⟩ : ∃ i : Nat, k = (i : Int) := ⟨k.toNat, by omega⟩
    obtain ⟨j, rfl⟩ : ∃ j : Nat, m = (j : Int) := ⟨m.toNat, by omega⟩
    obtain ⟨f, hf⟩ : ∃ f, fl[i]? = some f := ⟨_, List.getElem?_eq_getElem (by omega)⟩
    obtain ⟨g, hg, e1, e2, e3⟩ := pu_at h.pure hf
    have hfg : pu f = pu g := by unfold pu; rw [e1, e2, e3]
    obtain ⟨f2, hf2⟩ : ∃ f, fl[j]? = some f := ⟨_, List.getElem?_eq_getElem (by omega)⟩
    obtain ⟨g2, hg2, e4, e5, e6⟩ := pu_at h.pure hf2
    have hfg2 : pu f2 = pu g2 := by unfold pu; rw [e4, e5, e6]
    refine (does_swap w p q fv rv fl rl lost h (i : Int) (j : Int) b d ab bs cb hu ((swapL rl i j g g2).map pu) lost 0 ?_ ?_).mono fun e w' hx => both (by omega) hx
    · intro N W hN hr
      exact (rswap_in N W hN rv rl lost hr i j g g2 hg hg2).mono fun e w' ⟨rv', h1, h2, h3⟩ => ⟨rv', _, h1, h2, h3, rfl⟩
    · intro W hn hb
      exact (swap_k W p fv fl lost hn hb i j f f2 hf hf2).mono fun e w' ⟨h1, h2, h3, h4⟩ => ⟨fv, _, h1, h2, h3, h4, pu_swap h.pure hfg hfg2⟩
  · refine (does_swap w p q fv rv fl rl lost h k m b d ab bs cb hu (rl.map pu) lost 8 ?_ ?_).mono fun e w' hx => both (by omega) hx
    · intro N W hN hr
      exact (rswap_out N W rv rl lost hr k m (by omega)).mono fun e w' ⟨h1, h3⟩ => ⟨rv, rl, h1, hr.step h3, h3, rfl⟩
    · intro W hn hb
      exact (swap_out W p fv fl lost hn k m (by omega)).mono fun e w' ⟨h1, h2⟩ => ⟨fv, fl, h1, h2 ▸ hn, h2 ▸ hb, Kp.of_below (h2 ▸ Below.refl _ _), h.pure⟩
theorem do_hurt : Calls Try.prog 7 #[.pointer (some ⟨p, 0, none⟩), .pointer (some ⟨q, 0, none⟩), .agg #[.int .i64 6, .int .i64 k, .int .i64 m, .int .i64 b, .int .i64 d, .slice ab bs.length cb, .bool hu]] w fun e w' => Both w0 p q lost e w' := by
  have hl := pu_len h.pure
  by_cases hk : 0 ≤ k ∧ k < (fl.length : Int)
  · obtain ⟨i, rfl⟩ : ∃ i : Nat, k = (i : Int) := ⟨k.toNat, by omega⟩
    have hi : i < fl.length := by omega
    obtain ⟨f, hf⟩ : ∃ f, fl[i]? = some f := ⟨_, List.getElem?_eq_getElem hi⟩
    obtain ⟨g, hg, e1, e2, e3⟩ := pu_at h.pure hf
    by_cases hbad : f.hurt = true ∨ ¬ (0 ≤ m ∧ m < (f.bs.length : Int) ∧ 1 ≤ b ∧ b ≤ 255)
    · have hE : hurtE g m b = hurtE f m b := by unfold hurtE; rw [e2, e3]
      refine (does_hurt w p q fv rv fl rl lost h (i : Int) m b d ab bs cb hu (rl.map pu) lost (hurtE f m b) ?_ ?_).mono fun e w' hx => both (by omega) hx
      · intro N W hN hr
        exact (rhurt_bad N W rv rl lost hr i g hg m b (by rw [e2, e3]; exact hbad)).mono fun e w' ⟨h1, h3⟩ => ⟨rv, rl, by rw [← hE]; exact h1, hr.step h3, h3, rfl⟩
      · intro W hn hb
        exact (hurt_bad W p fv fl lost hn i f hf m b hbad).mono fun e w' ⟨h1, h2⟩ => ⟨fv, fl, h1, h2 ▸ hn, h2 ▸ hb, Kp.of_below (h2 ▸ Below.refl _ _), h.pure⟩
    · have hh : f.hurt = false := by cases hx : f.hurt; rfl; exact absurd (Or.inl hx) hbad
      have hq : 0 ≤ m ∧ m < (f.bs.length : Int) ∧ 1 ≤ b ∧ b ≤ 255 := Classical.byContradiction fun hx => hbad (Or.inr hx)
      obtain ⟨a, rfl⟩ : ∃ a : Nat, m = (a : Int) := ⟨m.toNat, by omega⟩
      obtain ⟨c, rfl⟩ : ∃ c : Nat, b = (c : Int) := ⟨b.toNat, by omega⟩
      obtain ⟨x, hx⟩ : ∃ x, f.bs[a]? = some x := ⟨_, List.getElem?_eq_getElem (by omega)⟩
      refine (does_hurt w p q fv rv fl rl lost h (i : Int) (a : Int) (c : Int) d ab bs cb hu ((fl.set i (hurtF f a c x)).map pu) lost 0 ?_ ?_).mono fun e w' hx => both (by omega) hx
      · intro N W hN hr
        exact (rhurt_in N W hN rv rl lost hr i g hg (by rw [e3]; exact hh) a c x (by rw [e2]; exact hx) (by omega) (by omega)).mono fun e w' ⟨rv', r, h1, h2, h3⟩ => ⟨rv', _, h1, h2, h3, (pu_set h.pure (by unfold pu hurtF; simp only; rw [e1, e2])).symm⟩
      · intro W hn hb
        exact (hurt_k W p fv fl lost hn hb i f hf hh a c x hx (by omega) (by omega)).mono fun e w' ⟨h1, h2, h3, h4⟩ => ⟨fv, _, h1, h2, h3, h4, rfl⟩
  · refine (does_hurt w p q fv rv fl rl lost h k m b d ab bs cb hu (rl.map pu) lost 8 ?_ ?_).mono fun e w' hx => both (by omega) hx
    · intro N W hN hr
      exact (rhurt_out N W rv rl lost hr k m b (by omega)).mono fun e w' ⟨h1, h3⟩ => ⟨rv, rl, h1, hr.step h3, h3, rfl⟩
    · intro W hn hb
      exact (hurt_out W p fv fl lost hn k m b hk).mono fun e w' ⟨h1, h2⟩ => ⟨fv, fl, h1, h2 ▸ hn, h2 ▸ hb, Kp.of_below (h2 ▸ Below.refl _ _), h.pure⟩
theorem do_clear : Calls Try.prog 7 #[.pointer (some ⟨p, 0, none⟩), .pointer (some ⟨q, 0, none⟩), .agg #[.int .i64 7, .int .i64 k, .int .i64 m, .int .i64 b, .int .i64 d, .slice ab bs.length cb, .bool hu]] w fun e w' => Both w0 p q lost e w' := by
  have hl := pu_len h.pure
  have hc := pu_len (pu_clear h.pure m)
  refine (does_clear w p q fv rv fl rl lost h k m b d ab bs cb hu ((clearL rl m).map pu) lost ((rl.length - (clearL rl m).length : Nat) : Int) ?_ ?_).mono fun e w' hx => both (by omega) hx
  · intro N W hN hr
    exact (rclear_any N W hN rv rl lost hr m).mono fun e w' ⟨rv', h1, h2, h3⟩ => ⟨rv', _, h1, h2, h3, rfl⟩
  · intro W hn hb
    by_cases hp : 0 < fl.length
    · exact (clear_k W p fv fl lost hn hb hp m).mono fun e w' ⟨v', h1, h2, h3, h4⟩ => ⟨v', _, by rw [← hl, ← hc]; exact h1, h2, h3, h4, pu_clear h.pure m⟩
    · have hz : fl = [] := List.eq_nil_of_length_eq_zero (by omega)
      have hz2 : rl = [] := List.eq_nil_of_length_eq_zero (by omega)
      subst hz hz2
      exact (clear_none W p fv lost hn m).mono fun e w' ⟨h1, h2⟩ => ⟨fv, [], h1, hn.step h2, hb.trans (h2.mono hb.size), Kp.of_below h2, rfl⟩
theorem does_any (hlo : lost < 100000) (kd : Int) (hf : FlN (Or1 (NOwn p fv fl) q) w ⟨d, .slice ab bs.length cb, bs, hu⟩) :
    Calls Try.prog 7 #[.pointer (some ⟨p, 0, none⟩), .pointer (some ⟨q, 0, none⟩), .agg #[.int .i64 kd, .int .i64 k, .int .i64 m, .int .i64 b, .int .i64 d, .slice ab bs.length cb, .bool hu]] w fun e w' => Both w0 p q lost e w' := by
  by_cases h012 : kd = 0 ∨ kd = 1 ∨ kd = 2
  · exact do_send w p q fv rv fl rl lost h k m b d ab bs cb hu hlo kd h012 hf
  by_cases h3 : kd = 3
  · subst h3; exact do_take w p q fv rv fl rl lost h k m b d ab bs cb hu
  by_cases h4 : kd = 4
  · subst h4; exact do_twice w p q fv rv fl rl lost h k m b d ab bs cb hu hlo
  by_cases h5 : kd = 5
  · subst h5; exact do_swap w p q fv rv fl rl lost h k m b d ab bs cb hu
  by_cases h6 : kd = 6
  · subst h6; exact do_hurt w p q fv rv fl rl lost h k m b d ab bs cb hu
  by_cases h7 : kd = 7
  · subst h7; exact do_clear w p q fv rv fl rl lost h k m b d ab bs cb hu
  exact (does_other w p q fv rv fl rl lost h kd k m b d ab bs.length cb hu (by omega) (by omega) (by omega) h3 h4 h5 h6 h7).mono fun e w' ⟨h1, h2⟩ => ⟨h1, fv, rv, fl, rl, lost, h2, by omega⟩
end
end Go.Proofs.Ytdocfoienbadhaa
