/- SumFinds, walked. -/
import Derived.Test.YtbigkkpbffmdbaaSumW
import Derived.Test.YtbigkkpbffmdbaaFindM
set_option linter.unusedVariables false
namespace Go.Proofs.Ytbigkkpbffmdbaa
open Go.RowKit

/-- While bits are turned. -/
structure Fl (w wr : World) (g cap : Nat) (l : List Nat) : Prop where
  b : Below w.heap.size w wr
  ge : w.heap.size ≤ g
  blk : ∃ cur : Array Value, wr.heap[g]? = some (.cells cur 5 (0, 0)) ∧ cur.toList.take l.length = u8s l ∧ cur.size = cap
  le : l.length ≤ cap
  mx : cap ≤ maxLen
theorem Fl.start {w w1 : World} {g cap n : Nat} {l : List Nat} (h : RowOut w w1 (.slice (some ⟨g, 0, none⟩) n cap) l) : Fl w w1 g cap l ∧ n = l.length := by
  rcases h.1.2 with ⟨h2, _⟩ | ⟨g', cap', cur, e, hB, hg, hn, hm, hs, ht⟩
  · cases h2
  · injection e with e1 e2 e3
    injection e1 with e1
    injection e1 with e1
    subst e1 e2 e3
    exact ⟨⟨h.2, hB, ⟨cur, hg, by rw [Nat.mul_one] at ht; exact ht, by rw [hs, Nat.mul_one]⟩, hn, hm⟩, rfl⟩
theorem Fl.cell {w wr : World} {g cap : Nat} {l : List Nat} (h : Fl w wr g cap l) {j x : Nat} (hj : l[j]? = some x) : wr.cell? ⟨g, j, none⟩ = some (.int .u8 (x : Int)) ∧ wr.frozen? ⟨g, j, none⟩ = false := by
  obtain ⟨cur, hg, ht, _⟩ := h.blk
  refine ⟨?_, frozen_of_row _ _ _ _ _ hg⟩
  have hl := (List.getElem?_eq_some_iff.1 hj).1
  have h2 : (u8s l)[j]? = some (.int .u8 (x : Int)) := by rw [u8s_get, hj]; rfl
  rw [← ht, List.getElem?_take, if_pos hl] at h2
  rw [cell_of_row _ _ _ _ _ _ hg, ← Array.getElem?_toList]
  exact h2
theorem Fl.set {w wr : World} {g cap : Nat} {l : List Nat} (h : Fl w wr g cap l) (p y : Nat) : Fl w (wr.setCell ⟨g, p, none⟩ (.int .u8 (y : Int))) g cap (l.set p y) := by
  obtain ⟨cur, hg, ht, hc⟩ := h.blk
  refine ⟨h.b.setCell h.ge _, h.ge, ⟨_, row_setC hg, ?_, by rw [Array.size_setIfInBounds, hc]⟩, by rw [List.length_set]; exact h.le, h.mx⟩
  rw [List.length_set, Array.toList_setIfInBounds, List.take_set, ht]
  unfold u8s
  rw [List.map_set]
theorem Fl.lies {w wr : World} {g cap : Nat} {l : List Nat} (h : Fl w wr g cap l) : Lies wr (.slice (some ⟨g, 0, none⟩) l.length cap) l := by
  obtain ⟨cur, hg, ht, hc⟩ := h.blk
  refine ⟨_, cap, rfl, h.le, h.mx, (fun e => by cases e), fun b hb _ => ?_⟩
  cases hb
  exact ⟨g, 0, rfl, (Array.getElem?_eq_some_iff.1 hg).1, fun j x hj => by rw [Nat.zero_add]; exact (h.cell hj).1⟩

theorem x8 (a b : Nat) (ha : a < 256) (hb : b < 256) : bits .xor .u8 (a : Int) (b : Int) = ((a ^^^ b : Nat) : Int) := by
  have hx : a ^^^ b < 2 ^ 8 := Nat.xor_lt_two_pow (n := 8) ha hb
  show IntKind.u8.wrap ((BitVec.ofInt 8 (a : Int) ^^^ BitVec.ofInt 8 (b : Int)).toNat : Int) = _
  rw [BitVec.toNat_xor, BitVec.ofInt_natCast, BitVec.ofInt_natCast, BitVec.toNat_ofNat, BitVec.toNat_ofNat, Nat.mod_eq_of_lt (show a < 2 ^ 8 from ha), Nat.mod_eq_of_lt (show b < 2 ^ 8 from hb), IntKind.wrap_u8']
  omega

set_option maxRecDepth 100000 in
set_option maxHeartbeats 1600000 in
theorem finds_near (w : World) (v : Value) (bs : List Nat) (at_ m : Nat) (ha : at_ < 65536) (hm : m < 4294967296) (hm0 : m ≠ 0) (h : Lies w v bs) (hb : Byt bs) (hl : bs.length ≤ 1000) :
    Calls Try.prog 5 #[v, .int .u16 at_, .int .u32 m] w fun e w' => e = .returned (.bool true) ∧ Below w.heap.size w w' := by
  have R := Lib.hid (rseal_any w v bs h hb (by omega))
  have hsl := seal_length bs
  have hss := seal_byt hb
  obtain ⟨n, hn⟩ : ∃ n, n = at_ % (8 * (bs.length + 4) - 31) := ⟨_, rfl⟩
  have hn2 : n + 32 ≤ 8 * (bs.length + 4) := by
    have := Nat.mod_lt at_ (show 0 < 8 * (bs.length + 4) - 31 by omega)
    omega
  have ec : ((8 * (bs.length + 4) - 31 : Nat) : Int) = 8 * ((bs.length : Int) + 4) - 31 := by omega
  have en : (at_ : Int) % (8 * ((bs.length : Int) + 4) - 31) = (n : Int) := by
    rw [hn, ← ec]
    exact (Int.natCast_emod _ _).symm
  have HNS : Hid (∀ l' : List Nat, Byt l' → l'.length = (seal' bs).length → vl l' = vl (seal' bs) ^^^ (2 ^ n * m) → ¬ Sealed l') := Lib.hid (fun l' b1 b2 b3 => turned_not_sealed bs l' n m hb b1 b2 (by rw [hsl]; omega) hm hm0 b3)
  generalize seal' bs = ss at *
  obtain ⟨ao, cap, rfl, _⟩ := h
  have t1 := bneb_ (m : Int) 0 (by omega)
  have HM := Lib.hid hm
  clear hb hn hm0 hm ec
  go_enter Try.func5, Try.ntmps5
  go_wp2_with fail
  refine R.out.mono ?_
  rintro e w1 ⟨r, rfl, ho⟩
  obtain ⟨ra, rc, rfl⟩ := own_shape ho.1
  cases ra with
  | none =>
    have := (own_lies ho.1)
    obtain ⟨ao', cap', e, _, _, h0, _⟩ := this
    injection e with e1 _ _
    have := (h0 e1.symm).1
    rw [this] at hsl
    simp at hsl
  | some ra =>
    obtain ⟨g, rfl⟩ : ∃ g, ra = ⟨g, 0, none⟩ := by
      rcases ho.1.2 with ⟨h2, _⟩ | ⟨g', cap', cur, e, _⟩
      · cases h2
      · injection e with e1 _ _
        injection e1 with e1
        exact ⟨g', e1⟩
    obtain ⟨hF, hlen⟩ := Fl.start ho
    have HF := Lib.hid hF
    have HSS := Lib.hid hss
    have HSL := Lib.hid hsl
    clear ho hF hss hlen
    rw [hsl]
    go_wp2
    go_loopw [9] (fun iv wr => ∃ (k : Nat) (l : List Nat), iv = .int .i64 k ∧ k ≤ 32 ∧ l.length = bs.length + 4 ∧ Hid (Fl w wr g rc l ∧ Byt l ∧ vl l = vl ss ^^^ (2 ^ n * (m % 2 ^ k)))) (fun iv _ => 32 - (intOf iv).toNat)
    case atStart => exact ⟨0, ss, rfl, by omega, hsl, Lib.hid ⟨HF.out, HSS.out, by rw [Nat.pow_zero, Nat.mod_one, Nat.mul_zero, Nat.xor_zero]⟩⟩
    case round =>
      obtain ⟨k, l, rfl, hk, hll, hI⟩ := hrel
      have HLL := Lib.hid hll
      clear hll hsl
      by_cases hlt : k < 32
      · obtain ⟨q, hq⟩ : ∃ q, q = m / 2 ^ k := ⟨_, rfl⟩
        have em : (m : Int) / 2 ^ k = (q : Int) := by rw [hq]; simp
        have hst := mask_step m k n
        rw [← hq] at hst
        by_cases hodd : q % 2 = 1
        · rw [if_pos hodd] at hst
          have eo : (q : Int).tmod 2 = 1 := by rw [Int.tmod_eq_emod_of_nonneg (by omega)]; omega
          have eo2 : (q : Int) % 2 = 1 := by omega
          obtain ⟨p, hp⟩ : ∃ p, p = (n + k) / 8 := ⟨_, rfl⟩
          obtain ⟨j, hj⟩ : ∃ j, j = (n + k) % 8 := ⟨_, rfl⟩
          have ep : ((n : Int) + (k : Int)) / 8 = (p : Int) := by omega
          have ep2 : ((n : Int) + (k : Int)).tdiv 8 = (p : Int) := by rw [Int.tdiv_eq_ediv_of_nonneg (by omega)]; omega
          have ej : ((n : Int) + (k : Int)) % 8 = (j : Int) := by omega
          have ej2 : ((n : Int) + (k : Int)).tmod 8 = (j : Int) := by rw [Int.tmod_eq_emod_of_nonneg (by omega)]; omega
          have hpl : p < bs.length + 4 := by omega
          have hj8 : j < 8 := by omega
          obtain ⟨x, hx⟩ : ∃ x, l[p]? = some x := ⟨_, List.getElem?_eq_getElem (by rw [HLL.out]; exact hpl)⟩
          obtain ⟨c0, f0⟩ := hI.out.1.cell hx
          have hx256 := hI.out.2.1 x (List.mem_of_getElem? hx)
          have hn3 : n ≤ 8100 := by omega
          have hkk : k ≤ 31 := by omega
          obtain ⟨y, hy⟩ : ∃ y, y = x ^^^ 2 ^ j := ⟨_, rfl⟩
          have h2j : 2 ^ j < 256 := by
            have : 2 ^ j ≤ 2 ^ 7 := Nat.pow_le_pow_right (by omega) (by omega)
            omega
          have hy256 : y < 256 := by rw [hy]; exact Nat.xor_lt_two_pow (n := 8) hx256 h2j
          have ex : bits .xor .u8 (x : Int) (2 ^ j % 256) = (y : Int) := by
            obtain ⟨P, hP⟩ : ∃ P : Nat, P = 2 ^ j := ⟨_, rfl⟩
            have e2 : (2 : Int) ^ j = (P : Int) := by rw [hP]; simp
            rw [← hP] at h2j hy
            rw [e2, show (P : Int) % 256 = (P : Int) by omega, x8 _ _ hx256 h2j, hy]
          have HN : Hid (Fl w (wr.setCell ⟨g, p, none⟩ (.int .u8 (y : Int))) g rc (l.set p y) ∧ Byt (l.set p y) ∧ vl (l.set p y) = vl ss ^^^ (2 ^ n * (m % 2 ^ (k + 1)))) := Lib.hid (by
            refine ⟨hI.out.1.set p y, ?_, ?_⟩
            · intro z hz
              rcases List.mem_or_eq_of_mem_set hz with hz | hz
              · exact hI.out.2.1 z hz
              · rw [hz]; exact hy256
            · rw [hst, hy, vl_set l p j x hx hj8 hI.out.2.1, hI.out.2.2, Nat.xor_assoc, show 8 * p + j = n + k by omega])
          have HLS : Hid ((l.set p y).length = bs.length + 4) := Lib.hid (by rw [List.length_set]; exact HLL.out)
          clear hq hst hp hj hy hx hI h2j
          go_wp2
          go_roundw
          case rel => exact ⟨k + 1, l.set p y, by go_num, by omega, HLS.out, HN⟩
          case measure => simp [intOf]; omega
        · have eo : (q : Int).tmod 2 = 0 := by rw [Int.tmod_eq_emod_of_nonneg (by omega)]; omega
          have eo2 : (q : Int) % 2 = 0 := by omega
          rw [if_neg hodd, Nat.xor_zero] at hst
          have HN : Hid (Fl w wr g rc l ∧ Byt l ∧ vl l = vl ss ^^^ (2 ^ n * (m % 2 ^ (k + 1)))) := Lib.hid (by rw [hst]; exact hI.out)
          clear hq hst hodd hI
          go_wp2
          go_roundw
          case rel => exact ⟨k + 1, l, by go_num, by omega, HLL.out, HN⟩
          case measure => simp [intOf]; omega
      · have hk32 : k = 32 := by omega
        have hF := hI.out.1
        have hns : ¬ Sealed l := HNS.out l hI.out.2.1 (by rw [HLL.out, HSL.out]) (by
          have h1 := hI.out.2.2
          rw [hk32, Nat.mod_eq_of_lt (show m < 2 ^ 32 from HM.out)] at h1
          exact h1)
        have hL := hF.lies
        rw [HLL.out] at hL
        have O := Lib.hid (open_any wr _ l hL hI.out.2.1 (by rw [HLL.out]; omega) false (by simp [hns]))
        have B := Lib.hid hF.b
        clear hF hns hL hI hk32
        go_wp2_with fail
        refine O.out.mono ?_
        rintro e w2 ⟨r2, rfl, ho⟩
        have B2 := Lib.hid (B.out.trans (ho.2.mono B.out.size))
        obtain ⟨r2a, r2c, rfl⟩ := own_shape ho.1
        clear ho
        go_wp2_with fail
        refine (awake_any _).mono ?_
        rintro e w3 ⟨rfl, hb3⟩
        have B3 := Lib.hid (B2.out.trans (hb3.mono B2.out.size))
        clear hb3
        go_wp2
        go_returns
        exact ⟨rfl, B3.out⟩

set_option maxRecDepth 100000 in
set_option maxHeartbeats 400000 in
theorem finds_far (w : World) (v : Value) (bs : List Nat) (at_ m : Nat) (h : Lies w v bs) (hl : 1000 < bs.length ∨ m = 0) :
    Calls Try.prog 5 #[v, .int .u16 at_, .int .u32 m] w fun e w' => e = .returned (.bool true) ∧ Below w.heap.size w w' := by
  have hlm : bs.length ≤ maxLen := by obtain ⟨_, _, _, g1, g2, _⟩ := h; omega
  unfold maxLen at hlm
  obtain ⟨ao, cap, rfl, _⟩ := h
  by_cases h1 : 1000 < bs.length
  · clear hl
    go_enter Try.func5, Try.ntmps5
    go_wp2_with fail
    refine (awake_any _).mono ?_
    rintro e w3 ⟨rfl, hb3⟩
    have B3 := Lib.hid hb3
    clear hb3
    go_wp2
    go_returns
    exact ⟨rfl, B3.out⟩
  · obtain rfl : m = 0 := by omega
    clear hl
    go_enter Try.func5, Try.ntmps5
    go_wp2_with fail
    refine (awake_any _).mono ?_
    rintro e w3 ⟨rfl, hb3⟩
    have B3 := Lib.hid hb3
    clear hb3
    go_wp2
    go_returns
    exact ⟨rfl, B3.out⟩

theorem finds_all (w : World) (v : Value) (bs : List Nat) (at_ m : Nat) (ha : at_ < 65536) (hm : m < 4294967296) (h : Lies w v bs) (hb : Byt bs) :
    Calls Try.prog 5 #[v, .int .u16 at_, .int .u32 m] w fun e w' => e = .returned (.bool true) ∧ Below w.heap.size w w' := by
  by_cases hl : 1000 < bs.length ∨ m = 0
  · exact finds_far w v bs at_ m h hl
  · exact finds_near w v bs at_ m ha hm (by omega) h hb (by omega)
end Go.Proofs.Ytbigkkpbffmdbaa
