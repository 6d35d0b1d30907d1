/- The reference's disk: its files in memory; kind, New, At, step, Used; two texts alike. -/
import Derived.Test.YtoddofcmdbifpaaDT
set_option linter.unusedVariables false
set_option linter.unusedSimpArgs false
set_option maxRecDepth 100000
namespace Go.Proofs.Ytoddofcmdbifpaa
open Go.RowKit Go.WideMaps Go.Maps

theorem tl_eq {s t : ByteArray} (h : s = t) : (s.toList == t.toList) = true := by subst h; simp
theorem tl_ne {s t : ByteArray} (h : s ≠ t) : (s.toList == t.toList) = false := by
  cases e : (s.toList == t.toList) with
  | false => rfl
  | true => exact absurd (ba_toList (by simpa using e)) h
/-- A file of the reference's: name, bytes, how many are sure. -/
def encR (x : Fl) : List Value := [.string x.n, .slice x.a x.b.length x.c, .int .i64 x.s]
theorem encR_len (x : Fl) : (encR x).length = 3 := rfl
theorem encR_one (x : Fl) : ∀ v ∈ encR x, v.oneCell' = true := by
  intro v hv
  unfold encR at hv
  simp at hv
  rcases hv with rfl | rfl | rfl <;> rfl
def RD (w : World) (v : Value) (l : List Fl) : Prop := LiesK encR 3 w v l ∧ ∀ x ∈ l, LiesK encB 1 w x.v x.b
theorem RD.step {w w' : World} {v : Value} {l : List Fl} (h : RD w v l) (hb : Below w.heap.size w w') : RD w' v l := ⟨h.1.step hb, fun x hx => (h.2 x hx).step hb⟩
theorem RD.keep {w w' : World} {E : Nat} {v : Value} {l : List Fl} (h : RD w v l) (hb : Below E w w') (hE : w.heap.size ≤ E) : RD w' v l := ⟨h.1.keep hb hE, fun x hx => (h.2 x hx).keep hb hE⟩
def RB (w : World) (g : Nat) (v : Value) (room lasts : Int) (dn : Bool) : Prop := w.heap[g]? = some (.cells #[v, .int .i64 room, .int .i64 lasts, .bool dn] 29 (0, 0))
theorem RB.step {w w' : World} {g : Nat} {v : Value} {room lasts : Int} {dn : Bool} (h : RB w g v room lasts dn) (hb : Below w.heap.size w w') : RB w' g v room lasts dn := (hb.block g (lt_of_block h)).trans h
theorem RB.new (w : World) (v : Value) (room lasts : Int) (dn : Bool) : RB (w.alloc (.cells #[v, .int .i64 room, .int .i64 lasts, .bool dn] 29)) w.heap.size v room lasts dn := heap_alloc_new w _
theorem RB.cells {w : World} {g : Nat} {v : Value} {room lasts : Int} {dn : Bool} (h : RB w g v room lasts dn) : w.cell? ⟨g, 0, none⟩ = some v ∧ w.cell? ⟨g, 1, none⟩ = some (.int .i64 room) ∧ w.cell? ⟨g, 2, none⟩ = some (.int .i64 lasts) ∧ w.cell? ⟨g, 3, none⟩ = some (.bool dn) := by
  refine ⟨?_, ?_, ?_, ?_⟩ <;> (rw [cell_of_row _ _ _ _ _ _ h]; rfl)
theorem rec_at {w : World} {ao : Option Addr} {n cap : Nat} {l : List Fl} (h : LiesK encR 3 w (.slice ao n cap) l) {i : Nat} (hi : i < n) : ∃ g o x, ao = some ⟨g, o, none⟩ ∧ l[i]? = some x ∧ g < w.heap.size ∧ w.cell? ⟨g, o + i * 3, none⟩ = some (.string x.n) ∧ w.cell? ⟨g, o + i * 3 + 1, none⟩ = some (.slice x.a x.b.length x.c) ∧ w.cell? ⟨g, o + i * 3 + 2, none⟩ = some (.int .i64 x.s) := by
  obtain ⟨g, o, p, e, hx, hg, hc⟩ := h.at' hi
  exact ⟨g, o, p, e, hx, hg, hc 0 _ rfl, hc 1 _ rfl, hc 2 _ rfl⟩
def kindF (k : Int) : Int := if k < 0 ∨ 6 < k then -1 else if 2 ≤ k then k - 1 else k
theorem kind_any (w : World) (k : Int) : Calls Try.prog 28 #[.int .i64 k] w fun e w' => e = .returned (.int .i64 (kindF k)) ∧ w = w' := by
  unfold kindF
  by_cases h1 : k < 0
  · rw [if_pos (.inl h1)]
    go_enter Try.func28, Try.ntmps28
    go_wp2
    go_returns
    exact ⟨rfl, rfl⟩
  · by_cases h2 : 6 < k
    · rw [if_pos (.inr h2)]
      go_enter Try.func28, Try.ntmps28
      go_wp2
      go_returns
      exact ⟨rfl, rfl⟩
    · rw [if_neg (by omega)]
      by_cases h3 : 2 ≤ k
      · rw [if_pos h3]
        go_enter Try.func28, Try.ntmps28
        go_wp2
        go_returns
        exact ⟨rfl, rfl⟩
      · rw [if_neg h3]
        go_enter Try.func28, Try.ntmps28
        go_wp2
        go_returns
        exact ⟨rfl, rfl⟩
def atF (l : List Fl) (nm : ByteArray) : Int := match l.findIdx? (isN nm) with | some i => (i : Int) | none => -1
theorem atF_hit {l : List Fl} {nm : ByteArray} {i : Nat} {x : Fl} (hx : l[i]? = some x) (hn : x.n = nm) (hb : ∀ (j : Nat) y, j < i → l[j]? = some y → y.n ≠ nm) : atF l nm = (i : Int) := by
  unfold atF
  have hi := (List.getElem?_eq_some_iff.1 hx).1
  have : l.findIdx? (isN nm) = some i := by
    rw [List.findIdx?_eq_some_iff_getElem]
    refine ⟨hi, ?_, fun j hj => ?_⟩
    · have e := (List.getElem?_eq_some_iff.1 hx).2
      rw [e]
      simp [isN, hn]
    · have := hb j _ hj (List.getElem?_eq_getElem (by omega))
      simp [isN, this]
  rw [this]
theorem atF_none {l : List Fl} {nm : ByteArray} (hb : ∀ (j : Nat) y, l[j]? = some y → y.n ≠ nm) : atF l nm = -1 := by
  unfold atF
  have : l.findIdx? (isN nm) = none := by
    rw [List.findIdx?_eq_none_iff]
    intro x hx
    obtain ⟨j, hj⟩ := List.getElem?_of_mem hx
    have := hb j x hj
    simp [isN, this]
  rw [this]
set_option maxHeartbeats 3200000 in
theorem rat_any (w : World) (v : Value) (l : List Fl) (room lasts : Int) (dn : Bool) (h : RD w v l) (nm : ByteArray) (hl : l.length ≤ 100000) :
    Calls Try.prog 38 #[.agg #[v, .int .i64 room, .int .i64 lasts, .bool dn], .string nm] w fun e w' => e = .returned (.int .i64 (atF l nm)) ∧ Below w.heap.size w w' := by
  have B1 := vstep w (.cells #[v, .int .i64 room, .int .i64 lasts, .bool dn] 29)
  have L := Lib.hid (h.step B1)
  have G := Lib.hid (RB.new w v room lasts dn)
  obtain ⟨W0, hW0⟩ : ∃ y, w.alloc (.cells #[v, .int .i64 room, .int .i64 lasts, .bool dn] 29) = y := ⟨_, rfl⟩
  rw [hW0] at L G B1
  have HW := Lib.hid hW0
  have B := Lib.hid B1
  obtain ⟨ao, cap, rfl⟩ := h.1.shape
  have hlm := h.1.len
  obtain ⟨res, hres⟩ : ∃ y, atF l nm = y := ⟨_, rfl⟩
  rw [hres]
  have HR := Lib.hid hres
  clear h hW0 B1 hres
  go_enter Try.func38, Try.ntmps38
  go_upto_region 1 with (fail)
  rw [HW.out]
  obtain ⟨c0, c1, c2, c3⟩ := G.out.cells
  clear c1 c2 c3
  go_wp2_with fail
  go_loopw [5] (fun kv wr => ∃ i : Nat, kv = .int .i64 i ∧ i ≤ l.length ∧ Hid (wr = W0 ∧ ∀ (j : Nat) x, j < i → l[j]? = some x → x.n ≠ nm)) (fun kv _ => l.length - (intOf kv).toNat)
  case atStart => exact ⟨0, rfl, Nat.zero_le _, Lib.hid ⟨rfl, fun j x h => absurd h (Nat.not_lt_zero _)⟩⟩
  case round =>
    obtain ⟨i, rfl, hi, hK⟩ := hrel
    obtain rfl := hK.out.1
    have J0 := Lib.hid hK.out.2
    clear hK
    by_cases hlt : i < l.length
    · obtain ⟨g, o, x, rfl, hx, hg, a0, a1, a2⟩ := rec_at L.out.1 hlt
      have HX := Lib.hid hx
      clear hx a1 a2
      by_cases hn : x.n = nm
      · have e1 := tl_eq hn
        have EQ := Lib.hid (atF_hit HX.out hn J0.out)
        clear hn
        go_wp2
        go_returns
        exact ⟨by rw [← HR.out, EQ.out]; rfl, B.out⟩
      · have e1 := tl_ne hn
        have JN := Lib.hid (show ∀ (j : Nat) y, j < i + 1 → l[j]? = some y → y.n ≠ nm from fun j y hj hy => by
          by_cases e : j = i
          · subst e; rw [HX.out] at hy; injection hy with hy; subst hy; exact hn
          · exact J0.out j y (by omega) hy)
        clear hn
        go_wp2
        go_roundw
        case rel => exact ⟨i + 1, by go_num, by omega, Lib.hid ⟨by first | rfl | trivial, JN.out⟩⟩
        case measure => simp [intOf]; omega
    · have hge : ¬ ((i : Int) < (l.length : Int)) := by omega
      have EQ := Lib.hid (atF_none (l := l) (nm := nm) (fun j y hy => J0.out j y (by have := (List.getElem?_eq_some_iff.1 hy).1; omega) hy))
      go_wp2
      go_returns
      exact ⟨by rw [← HR.out, EQ.out]; rfl, B.out⟩
end Go.Proofs.Ytoddofcmdbifpaa
