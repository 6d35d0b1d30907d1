/- The reference's reader: Left, Fail, End, Num. -/
import Derived.Test.YtifeakmbeaflgaaDoorOH
import Derived.BigQuiet
set_option linter.unusedVariables false
set_option linter.unusedSimpArgs false
set_option maxRecDepth 100000
namespace Go.Proofs.YtifeakmbeaflgaaDoor
open Go.RowKit
open Wi (Feed Kr St Byt rd)

/-- The slice v holds these bytes, in another block than r, below M. -/
def FeedR (w : World) (M r : Nat) (v : Value) (bs : List Int) : Prop :=
  ∃ ao cap, v = .slice ao bs.length cap ∧ bs.length ≤ cap ∧ True ∧ (bs ≠ [] → ∃ g off, ao = some ⟨g, off, none⟩ ∧ (g ≠ r ∧ g < M) ∧ ∀ j x, bs[j]? = some x → w.cell? ⟨g, off + j, none⟩ = some (.int .u8 x))
/-- The reference's reader at block g: its bytes, where it is, what is wrong. -/
structure RI (w : World) (M g : Nat) (v : Value) (bs : List Int) (p : Nat) (bad : Int) : Prop where
  box : w.heap[g]? = some (.cells #[v, .int .i64 (p : Int), .int .i64 bad] 81 (0, 0))
  feed : FeedR w M g v bs
  byt : Byt bs
  len : bs.length ≤ 1000000
  top : M ≤ w.heap.size
  le : p ≤ bs.length
/-- It stands where the program's would. -/
def RS (w : World) (M g : Nat) (v : Value) (bs : List Int) (s : St) : Prop := ∃ p, RI w M g v bs p s.bad ∧ (s.bad = 0 → s.bs = bs.drop p)
def RO (w w' : World) (M g : Nat) (v : Value) (bs : List Int) (s : St) : Prop := RS w' M g v bs s ∧ Kr w w' g
theorem FeedR.kr {w w' : World} {M g : Nat} {v : Value} {bs : List Int} (h : FeedR w M g v bs) (k : Kr w w' g) (hM : M ≤ w.heap.size) : FeedR w' M g v bs := by
  obtain ⟨ao, cap, e, h1, h2, h3⟩ := h
  refine ⟨ao, cap, e, h1, h2, fun hne => ?_⟩
  obtain ⟨b, off, e2, ⟨n1, n2⟩, hc⟩ := h3 hne
  refine ⟨b, off, e2, ⟨n1, n2⟩, fun j x hj => ?_⟩
  have := hc j x hj
  unfold World.cell? at this ⊢
  simp only at this ⊢
  rw [k.block b (by omega) n1]
  exact this
theorem RI.kr {w w' : World} {M g : Nat} {v : Value} {bs : List Int} {p p' : Nat} {bad bad' : Int} (h : RI w M g v bs p bad) (k : Kr w w' g) (hb : w'.heap[g]? = some (.cells #[v, .int .i64 (p' : Int), .int .i64 bad'] 81 (0, 0))) (hp : p' ≤ bs.length) : RI w' M g v bs p' bad' :=
  ⟨hb, FeedR.kr h.feed k h.top, h.byt, h.len, Nat.le_trans h.top k.size, hp⟩
theorem RI.below {w w' : World} {M g : Nat} {v : Value} {bs : List Int} {p : Nat} {bad : Int} (h : RI w M g v bs p bad) (hb : Below w.heap.size w w') : RI w' M g v bs p bad :=
  h.kr (Kr.ofBelow g hb) ((hb.block g (lt_of_block h.box)).trans h.box) h.le
theorem RS.below {w w' : World} {M g : Nat} {v : Value} {bs : List Int} {s : St} (h : RS w M g v bs s) (hb : Below w.heap.size w w') : RS w' M g v bs s := by
  obtain ⟨p, h1, h2⟩ := h
  exact ⟨p, h1.below hb, h2⟩
theorem RI.cells {w : World} {M g : Nat} {v : Value} {bs : List Int} {p : Nat} {bad : Int} (h : RI w M g v bs p bad) : w.cell? ⟨g, 0, none⟩ = some v ∧ w.cell? ⟨g, 1, none⟩ = some (.int .i64 (p : Int)) ∧ w.cell? ⟨g, 2, none⟩ = some (.int .i64 bad) := by
  refine ⟨?_, ?_, ?_⟩ <;> (rw [cell_of_row _ _ _ _ _ _ h.box]; rfl)
theorem RI.free {w : World} {M g : Nat} {v : Value} {bs : List Int} {p : Nat} {bad : Int} (h : RI w M g v bs p bad) (j : Nat) : w.frozen? ⟨g, j, none⟩ = false := frozen_of_row _ _ _ _ _ h.box
theorem RI.set2 {w : World} {M g : Nat} {v : Value} {bs : List Int} {p : Nat} {bad : Int} (h : RI w M g v bs p bad) (e : Int) : RI (w.setCell ⟨g, 2, none⟩ (.int .i64 e)) M g v bs p e ∧ Kr w (w.setCell ⟨g, 2, none⟩ (.int .i64 e)) g :=
  ⟨h.kr (Kr.set 2 _) (Wi.row_setC (j := 2) (u := .int .i64 e) h.box) h.le, Kr.set 2 _⟩
theorem RI.set1 {w : World} {M g : Nat} {v : Value} {bs : List Int} {p : Nat} {bad : Int} (h : RI w M g v bs p bad) (q : Nat) (hq : q ≤ bs.length) : RI (w.setCell ⟨g, 1, none⟩ (.int .i64 (q : Int))) M g v bs q bad ∧ Kr w (w.setCell ⟨g, 1, none⟩ (.int .i64 (q : Int))) g :=
  ⟨h.kr (Kr.set 1 _) (Wi.row_setC (j := 1) (u := .int .i64 (q : Int)) h.box) hq, Kr.set 1 _⟩
theorem RI.shape {w : World} {M g : Nat} {v : Value} {bs : List Int} {p : Nat} {bad : Int} (h : RI w M g v bs p bad) : ∃ ao cap, v = .slice ao bs.length cap ∧ bs.length ≤ cap ∧ True := by
  obtain ⟨ao, cap, e, h1, h2, _⟩ := h.feed
  exact ⟨ao, cap, e, h1, h2⟩
theorem RI.at' {w : World} {M g : Nat} {ao : Option Addr} {n cap : Nat} {bs : List Int} {p : Nat} {bad : Int} (h : RI w M g (.slice ao n cap) bs p bad) {i : Nat} (hi : i < bs.length) : ∃ b off x, ao = some ⟨b, off, none⟩ ∧ b < M ∧ bs[i]? = some x ∧ w.cell? ⟨b, off + i, none⟩ = some (.int .u8 x) ∧ 0 ≤ x ∧ x < 256 := by
  obtain ⟨ao', cap', e, h1, h2, h3⟩ := h.feed
  injection e with e1 e2 e3
  subst e1
  obtain ⟨b, off, rfl, ⟨n1, n2⟩, hc⟩ := h3 (by rintro rfl; simp at hi)
  have hx := List.getElem?_eq_getElem hi
  have := h.byt _ (List.getElem_mem hi)
  exact ⟨b, off, _, rfl, n2, hx, hc i _ hx, this.1, this.2⟩
def ptrR (g : Nat) : Value := .pointer (some ⟨g, 0, none⟩)
theorem eqb0 (a b : Int) (h : a = b) : (a == b) = true := by simpa using h
theorem eqbF (a b : Int) (h : a ≠ b) : (a == b) = false := by simpa using h
theorem nebT (a b : Int) (h : a ≠ b) : (a != b) = true := by simpa using h
theorem nebF (a b : Int) (h : a = b) : (a != b) = false := by simpa using h
/-- What is left there. -/
def lf (s : St) : Int := if s.bad = 0 then (s.bs.length : Int) else 0
set_option maxHeartbeats 1600000 in
theorem rleft_any (w : World) (M g : Nat) (v : Value) (bs : List Int) (s : St) (h : RS w M g v bs s) :
    Calls Tryd.prog 83 #[ptrR g] w fun e w' => e = .returned (.int .i64 (lf s)) ∧ RO w w' M g v bs s := by
  obtain ⟨p, hi, hd⟩ := h
  obtain ⟨ao, cap, rfl, hc1, hc2⟩ := hi.shape
  have H := Lib.hid hi
  have HD := Lib.hid hd
  obtain ⟨c0, c1, c2⟩ := hi.cells
  have hle := hi.le
  have hlen := hi.len
  unfold lf
  by_cases hb : s.bad = 0
  · rw [if_pos hb]
    have LE := Lib.hid (show (s.bs.length : Int) = (bs.length : Int) - (p : Int) from by rw [hd hb, List.length_drop]; omega)
    have q1 := nebF _ _ hb
    have HB := Lib.hid hb
    have C0 : ∀ z : Later w, z.w.cell? ⟨g, 0, none⟩ = some (.slice ao bs.length cap) := fun z => (H.out.below z.below).cells.1
    have C1 : ∀ z : Later w, z.w.cell? ⟨g, 1, none⟩ = some (.int .i64 (p : Int)) := fun z => (H.out.below z.below).cells.2.1
    clear hi hd hb
    rw [LE.out]
    unfold ptrR
    go_enter Tryd.func83, Tryd.ntmps83
    go_upto_region 3 with (fail)
    clear c0 c1 c2
    refine wp_region_later (by kernel_rfl) (by kernel_rfl) ?_
    repeat (go_big_quiet_step (fail))
    refine wpQuiet_nil ?_
    rintro _ ⟨z, rfl⟩
    have K := Lib.hid (H.out.below z.below)
    have B := Lib.hid z.below
    clear C0 C1
    go_wp2
    go_returns
    exact ⟨rfl, ⟨p, K.out, HD.out⟩, Kr.ofBelow g B.out⟩
  · rw [if_neg hb]
    have q1 := nebT _ _ hb
    clear hi hd hb
    unfold ptrR
    go_enter Tryd.func83, Tryd.ntmps83
    go_wp2
    go_returns
    exact ⟨rfl, ⟨p, H.out, HD.out⟩, Kr.refl _ _⟩
set_option maxHeartbeats 1600000 in
theorem rfail_any (w : World) (M g : Nat) (v : Value) (bs : List Int) (s : St) (e0 : Int) (he : e0 ≠ 0) (h : RS w M g v bs s) :
    Calls Tryd.prog 64 #[ptrR g, .int .i64 e0] w fun e w' => e = .returned (.tuple #[]) ∧ RO w w' M g v bs (s.fail e0) := by
  obtain ⟨p, hi, hd⟩ := h
  have H := Lib.hid hi
  have HD := Lib.hid hd
  obtain ⟨c0, c1, c2⟩ := hi.cells
  have f2 := hi.free 2
  by_cases hb : s.bad = 0
  · have EF := Lib.hid (show s.fail e0 = ⟨[], e0⟩ from by unfold St.fail; rw [if_neg (by omega)])
    have q1 := eqb0 _ _ hb
    have HE := Lib.hid he
    clear hi hd hb he
    unfold ptrR
    go_enter Tryd.func64, Tryd.ntmps64
    go_wp2
    go_returns
    refine ⟨rfl, ⟨p, ?_, fun q => ?_⟩, (H.out.set2 e0).2⟩
    · rw [EF.out]; exact (H.out.set2 e0).1
    · rw [EF.out] at q; exact absurd q HE.out
  · have EF := Lib.hid (show s.fail e0 = s from by unfold St.fail; rw [if_pos (.inl hb)])
    have q1 := eqbF _ _ hb
    clear hi hd hb he
    unfold ptrR
    go_enter Tryd.func64, Tryd.ntmps64
    go_wp2
    go_returns
    exact ⟨rfl, ⟨p, by rw [EF.out]; exact H.out, by rw [EF.out]; exact HD.out⟩, Kr.refl _ _⟩
set_option maxHeartbeats 1600000 in
theorem rend_any (w : World) (M g : Nat) (v : Value) (bs : List Int) (s : St) (h : RS w M g v bs s) :
    Calls Tryd.prog 66 #[ptrR g] w fun e w' => e = .returned (.int .i64 s.fin.bad) ∧ (∃ v' bs' s', RS w' M g v' bs' s') ∧ Kr w w' g := by
  have LA := Lib.hid (rleft_any w M g v bs s h)
  have HF := Lib.hid (show s.fin = if s.bs.length > 0 then s.fail 4 else s from rfl)
  clear h
  obtain ⟨n, hn⟩ : ∃ n, lf s = n := ⟨_, rfl⟩
  rw [hn] at LA
  have HN := Lib.hid hn
  clear hn
  unfold ptrR at *
  go_enter Tryd.func66, Tryd.ntmps66
  go_wp2_with fail
  refine LA.out.mono ?_
  rintro e w1 ⟨rfl, ⟨p, hi, hd⟩, k1⟩
  have H := Lib.hid hi
  have HD := Lib.hid hd
  have K1 := Lib.hid k1
  obtain ⟨c0, c1, c2⟩ := hi.cells
  have f2 := hi.free 2
  clear hi hd k1 LA
  by_cases hg : 0 < n
  · have hb : s.bad = 0 := by
      have := HN.out
      unfold lf at this
      split at this
      · assumption
      · omega
    have EF := Lib.hid (show s.fin = ⟨[], 4⟩ from by
      rw [HF.out]
      have := HN.out
      unfold lf at this
      rw [if_pos hb] at this
      rw [if_pos (by omega)]
      unfold St.fail
      rw [if_neg (by omega)])
    clear hb
    go_wp2
    go_returns
    exact ⟨by rw [EF.out]; rfl, ⟨v, bs, ⟨[], 4⟩, p, (H.out.set2 4).1, fun q => by cases q⟩, K1.out.trans (H.out.set2 4).2⟩
  · have EF := Lib.hid (show s.fin.bad = s.bad from by
      rw [HF.out]
      by_cases hb : s.bad = 0
      · have := HN.out
        unfold lf at this
        rw [if_pos hb] at this
        rw [if_neg (by omega)]
      · split
        · unfold St.fail; rw [if_pos (.inl hb)]
        · rfl)
    go_wp2
    go_returns
    exact ⟨by rw [EF.out]; rfl, ⟨v, bs, s, p, H.out, HD.out⟩, K1.out⟩
end Go.Proofs.YtifeakmbeaflgaaDoor
