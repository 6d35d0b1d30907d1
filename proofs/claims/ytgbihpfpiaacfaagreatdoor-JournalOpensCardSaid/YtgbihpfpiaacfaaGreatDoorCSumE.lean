/- Open of both. -/
import Derived.Test.YtgbihpfpiaacfaaGreatDoorCSumD
import Derived.Deep.RegionWith
set_option linter.unusedVariables false
namespace Go.Proofs.YtgbihpfpiaacfaaGreatDoor.Rc
open Go.RowKit

theorem Lies.drop {w : World} {k o n cap : Nat} {bs : List Nat} (h : Lies w (.slice (some ⟨k, o, none⟩) n cap) bs) (m : Nat) (hm : m ≤ n) : Lies w (.slice (some ⟨k, o + m, none⟩) (n - m) (cap - m)) (bs.drop m) := by
  obtain ⟨ao', cap', e, hn, hmx, h0, hc⟩ := h
  injection e with e1 e2 e3
  subst e1 e2 e3
  have hl : (bs.drop m).length = bs.length - m := List.length_drop
  refine ⟨_, cap - m, by rw [hl], by rw [hl]; omega, by omega, (fun e => by cases e), fun b hb hne => ?_⟩
  cases hb
  obtain ⟨k', o', e, hk', hc⟩ := hc _ rfl (fun e => hne (by rw [e]; simp))
  injection e with e1 e2 _
  subst e1 e2
  refine ⟨k, o + m, rfl, hk', fun j x hj => ?_⟩
  rw [List.getElem?_drop] at hj
  rw [Nat.add_assoc]
  exact hc _ x hj

theorem RowOut.from {w w1 w' : World} {r : Value} {bs : List Nat} (h : RowOut w1 w' r bs) (hb : Below w.heap.size w w1) : RowOut w w' r bs := by
  refine ⟨?_, hb.trans (h.2.mono hb.size)⟩
  have hle := hb.size
  rcases h.1 with ⟨hlen, hrest⟩
  refine ⟨hlen, ?_⟩
  rcases hrest with h | ⟨g, cap, cur, e, hB, rest⟩
  · exact .inl h
  · exact .inr ⟨g, cap, cur, e, by omega, rest⟩

set_option maxRecDepth 100000 in
set_option maxHeartbeats 400000 in
theorem open_short (w : World) (v : Value) (bs : List Nat) (h : Lies w v bs) (hl : bs.length < 4) :
    Calls Tryz.prog 106 #[v] w fun e w' => e = .returned (.tuple #[.slice none 0 0, .bool false]) ∧ Below w.heap.size w w' := by
  obtain ⟨ao, cap, rfl, _⟩ := h
  have g1 : (bs.length : Int) - 4 < 0 := by omega
  go_enter Tryz.func106, Tryz.ntmps106
  go_wp2
  go_quiet (fail)
  go_wp2
  go_returns
  exact ⟨rfl, below_drewN w _⟩

set_option maxRecDepth 100000 in
set_option maxHeartbeats 3200000 in
theorem open_long (w : World) (v : Value) (bs : List Nat) (h : Lies w v bs) (hb : Byt bs) (hl : 4 ≤ bs.length) (hl2 : bs.length ≤ 200000) (ok : Bool) (hok : ok = true ↔ Sealed bs) :
    Calls Tryz.prog 106 #[v] w fun e w' => ∃ r, e = .returned (.tuple #[r, .bool ok]) ∧ RowOut w w' r (if ok then bs.take (bs.length - 4) else []) := by
  have H := Lib.hid h
  obtain ⟨ao, cap, rfl, hcap, hmx, h0, hc⟩ := h
  cases ao with
  | none => have := (h0 rfl).1; rw [this] at hl; simp at hl
  | some b =>
    obtain ⟨k, o, rfl, hk, _⟩ := hc b rfl (ne_of_lt (i := 0) (by omega))
    obtain ⟨n, hn⟩ : ∃ n, n = bs.length - 4 := ⟨_, rfl⟩
    have hlen : bs.length = n + 4 := by omega
    have L1 := H.out.take n (by omega)
    have L2 : Lies w (.slice (some ⟨k, o + n, none⟩) 4 (cap - n)) (bs.drop n) := by
      have h := H.out.drop n (by omega)
      rwa [show bs.length - n = 4 by omega] at h
    have S := Lib.hid (sealed_iff bs hl)
    rw [← hn] at S ⊢
    have B1 := Lib.hid (hb.take n)
    have B2 := Lib.hid (hb.drop n)
    have hm := more_lt 0 (bs.take n)
    have O := Lib.hid (fun W (hW : Below w.heap.size w W) => of_any W _ _ (L1.later hW) B1.out)
    have T := Lib.hid (fun W => told_any W (more 0 (bs.take n)) hm)
    have C := Lib.hid (fun W (hW : Below w.heap.size w W) => clone_any W _ _ (L1.later hW) (by rw [List.length_take]; omega))
    have E := Lib.hid (fun W r (hW : Below w.heap.size w W) (hr : Lies W r (le4 (more 0 (bs.take n)))) => equal_any W r _ _ _ hr (L2.later hW) (le4_byt _) B2.out (by unfold le4; simp) (ne_of_lt (i := 0) (by rw [List.length_drop]; omega)) ok (by rw [hok, S.out]))
    have e1 : (bs.length : Int) - 4 = (n : Int) := by omega
    have hncap : n < cap := by omega
    have hn2 : n ≤ 199996 := by omega
    have ew : wrap64 (n : Int) = (n : Int) := by unfold wrap64; omega
    have hd : decide ((n : Int) < 0) = false := by simp
    generalize more 0 (bs.take n) = s at *
    generalize bs.take n = tk at *
    rw [hlen] at *
    clear S hok h0 hc L1 L2 H hb hn hl B1 B2
    have D0 := Lib.hid (below_drewN w 1)
    go_enter Tryz.func106, Tryz.ntmps106
    go_wp2
    go_region_with (first
      | (go_at_call 87; refine (O.out w.drew D0.out).mono ?_; rintro e w1 ⟨rfl, hb1⟩; have B1 := Lib.hid (D0.out.trans (hb1.mono (Nat.le_refl _))); clear hb1)
      | (go_at_call 86; refine (T.out _).mono ?_; rintro e w2 ⟨r, rfl, ho⟩; have B2 := Lib.hid (B1.out.trans (ho.2.mono B1.out.size)); have L2 := own_lies ho.1; obtain ⟨ra, rc, rfl⟩ := own_shape ho.1; have HL2 := Lib.hid L2; clear ho L2)
      | (go_at_call 123; refine (E.out _ _ B2.out HL2.out).mono ?_; rintro e w3 ⟨rfl, rfl⟩))
    all_goals
      cases ok with
      | false =>
        go_wp2
        go_returns
        exact ⟨_, rfl, World.ownsRow_nil _ _ _ _, B2.out⟩
      | true =>
        go_wp2_with fail
        refine (C.out _ B2.out).mono ?_
        rintro e w4 ⟨r2, rfl, ho⟩
        have K := Lib.hid (ho.from B2.out)
        obtain ⟨r2a, r2c, rfl⟩ := own_shape ho.1
        clear ho
        go_wp2
        go_returns
        refine ⟨.slice r2a tk.length r2c, rfl, ?_⟩
        exact K.out

theorem open_any (w : World) (v : Value) (bs : List Nat) (h : Lies w v bs) (hb : Byt bs) (hl2 : bs.length ≤ 200000) (ok : Bool) (hok : ok = true ↔ Sealed bs) :
    Calls Tryz.prog 106 #[v] w fun e w' => ∃ r, e = .returned (.tuple #[r, .bool ok]) ∧ RowOut w w' r (if ok then bs.take (bs.length - 4) else []) := by
  by_cases hl : 4 ≤ bs.length
  · exact open_long w v bs h hb hl hl2 ok hok
  · have e : ok = false := by
      cases ok with
      | false => rfl
      | true => exact absurd (hok.1 rfl).1 hl
    subst e
    exact (open_short w v bs h (by omega)).mono fun e w' h => ⟨_, h.1, World.ownsRow_nil _ _ _ _, h.2⟩
end Go.Proofs.YtgbihpfpiaacfaaGreatDoor.Rc

