/- What the law's own 'writes' and the reference's 'Same' do. -/
import Derived.Test.YtffnopmadjpopabAwake
import Derived.Test.YtffnopmadjpopabRMath
import Derived.Deep.QuietTactic
import Derived.BigQuiet
set_option linter.unusedVariables false
namespace Go.Proofs.Ytffnopmadjpopab
open Go.RowKit

/-- The bytes of a part. -/
def pb (k n : Int) (s : ByteArray) (x y : Int) : List Int := if k = 0 then nb n.toNat else if k = 1 then fb (n == 1) else if k = 2 then tb s else if k = 3 then stb x y else []

def part (k n : Int) (s : ByteArray) (x y : Int) : Value := .agg #[.int .i64 k, .int .i64 n, .string s, .int .i64 x, .int .i64 y]

theorem five_cells {w : World} {q : Nat} {a b c d e : Value} {t : TypeId} (h : w.heap[q]? = some (.cells #[a, b, c, d, e] t (0, 0))) :
    w.cell? ⟨q, 0, none⟩ = some a ∧ w.cell? ⟨q, 1, none⟩ = some b ∧ w.cell? ⟨q, 2, none⟩ = some c ∧ w.cell? ⟨q, 3, none⟩ = some d ∧ w.cell? ⟨q, 4, none⟩ = some e := by
  refine ⟨?_, ?_, ?_, ?_, ?_⟩ <;> (rw [cell_of_row _ _ _ _ _ _ h]; rfl)

/-- What 'writes' leaves on a writer. -/
def WsOut (w w' : World) (B a : Nat) (v : Value) (bs : List Int) (r : Value) (l : List Int) : Prop := WrOut w w' B a v (bs ++ l) ∧ w'.ownsRow w.heap.size 5 1 r l.length (u8s l)

theorem own_mono {w : World} {B B' e size n : Nat} {v : Value} {xs : List Value} (h : w.ownsRow B e size v n xs) (hB : B' ≤ B) : w.ownsRow B' e size v n xs :=
  ⟨h.1, h.2.imp id (fun ⟨g, cap, cur, a1, a2, a3⟩ => ⟨g, cap, cur, a1, Nat.le_trans hB a2, a3⟩)⟩
theorem own_old {w w' : World} {B e size n : Nat} {v : Value} {xs : List Value} (h : w.ownsRow B e size v n xs) (hb : Below w.heap.size w w') : w'.ownsRow B e size v n xs :=
  h.kept (row := none) ⟨hb.os, hb.tape, hb.output, hb.size, fun k hk _ => hb.block k hk⟩ (by cases h : v.ownBlock <;> simp)

theorem WsOut.of {w w0 w1 w2 : World} {B a : Nat} {v v1 r : Value} {bs l : List Int} (h0 : Below w.heap.size w w0) (h1 : WrI w1 B a v1 (bs ++ l)) (e1 : Eff w0 w1 a v v1) (h2 : RowOut w1 w2 r l) : WsOut w w2 B a v bs r l :=
  ⟨⟨v1, h1.old h2.2, ((Eff.ofBelow a v h0).trans e1).trans (Eff.ofBelow a v1 h2.2)⟩, own_mono h2.1 (Nat.le_trans h0.size e1.size)⟩

set_option maxRecDepth 100000 in
set_option maxHeartbeats 1000000 in
theorem writes_any (w : World) (B a : Nat) (v : Value) (bs : List Int) (k n : Int) (s : ByteArray) (x y : Int) (hn : n ≤ 9223372036854775807) (hx : x ≤ 9223372036854775807) (hy : y ≤ 9223372036854775807) (hs : s.size ≤ 1000)
    (h : WrI w B a v bs) (hB : B ≤ w.heap.size) (hl : bs.length ≤ 800000) :
    Calls Try.prog 8 #[.pointer (some ⟨a, 0, none⟩), part k n s x y] w fun e w' => ∃ r, e = .returned r ∧ WsOut w w' B a v bs r (pb k n s x y) := by
  unfold part
  have hX := (Below.refl w.heap.size w).alloc (Nat.le_refl _) (.cells #[.int .i64 k, .int .i64 n, .string s, .int .i64 x, .int .i64 y] 30)
  have hbox := heap_alloc_new w (.cells #[.int .i64 k, .int .i64 n, .string s, .int .i64 x, .int .i64 y] 30)
  have hap : some w.heap.size ≠ v.ownBlock := fun c => by have := h.own.lt _ c.symm; omega
  have hna : w.heap.size ≠ a := by have := lt_of_block h.blk; omega
  have H := Lib.hid (h.old hX)
  have HX := Lib.hid hX
  have HB := Lib.hid hbox
  clear h hX hbox
  have hB1 : B ≤ w.heap.size + 1 := by omega
  by_cases k0 : k = 0
  · have E : pb k n s x y = nb n.toNat := if_pos k0
    rw [E]
    clear E
    subst k0
    go_enter Try.func8, Try.ntmps8
    go_wp2_with fail
    refine (wnum_any _ B a v bs n hn H.out (by simp; omega) (by omega)).mono ?_
    rintro e w1 ⟨rfl, v1, hW, hE⟩
    have hb1 := (hE.block w.heap.size (by simp) hna hap).trans HB.out
    obtain ⟨c0, c1, c2, c3, c4⟩ := five_cells hb1
    have K := Lib.hid (And.intro hW hE)
    clear hW hE hb1
    go_wp2_with fail
    refine (rnum_any w1 n hn).mono ?_
    rintro e w2 ⟨r, rfl, ho⟩
    have HO := Lib.hid ho
    clear ho
    go_wp2
    go_returns
    exact ⟨r, rfl, WsOut.of HX.out K.out.1 K.out.2 HO.out⟩
  · by_cases k1 : k = 1
    · have E : pb k n s x y = fb (n == 1) := (if_neg k0).trans (if_pos k1)
      rw [E]
      clear E
      subst k1
      clear k0
      generalize hbb : (n == 1) = bb
      have HBB := Lib.hid hbb
      clear hbb
      go_enter Try.func8, Try.ntmps8
      go_wp2_with fail
      rw [HBB.out]
      refine (wflag_any _ B a v bs bb H.out (by simp; omega) (by omega)).mono ?_
      rintro e w1 ⟨rfl, v1, hW, hE⟩
      have hb1 := (hE.block w.heap.size (by simp) hna hap).trans HB.out
      obtain ⟨c0, c1, c2, c3, c4⟩ := five_cells hb1
      have K := Lib.hid (And.intro hW hE)
      clear hW hE hb1
      go_wp2_with fail
      rw [HBB.out]
      refine (rflag_any w1 bb).mono ?_
      rintro e w2 ⟨r, rfl, ho⟩
      have HO := Lib.hid ho
      clear ho
      go_wp2
      go_returns
      exact ⟨r, rfl, WsOut.of HX.out K.out.1 K.out.2 HO.out⟩
    · by_cases k2 : k = 2
      · have E : pb k n s x y = tb s := (if_neg k0).trans ((if_neg k1).trans (if_pos k2))
        rw [E]
        clear E
        subst k2
        clear k0 k1
        go_enter Try.func8, Try.ntmps8
        go_wp2_with fail
        refine (wtext_any _ B a v bs s (by omega) H.out (by simp; omega) (by omega)).mono ?_
        rintro e w1 ⟨rfl, v1, hW, hE⟩
        have hb1 := (hE.block w.heap.size (by simp) hna hap).trans HB.out
        obtain ⟨c0, c1, c2, c3, c4⟩ := five_cells hb1
        have K := Lib.hid (And.intro hW hE)
        clear hW hE hb1
        go_wp2_with fail
        refine (rtext_any w1 s (by omega)).mono ?_
        rintro e w2 ⟨r, rfl, ho⟩
        have HO := Lib.hid ho
        clear ho
        go_wp2
        go_returns
        exact ⟨r, rfl, WsOut.of HX.out K.out.1 K.out.2 HO.out⟩
      · by_cases k3 : k = 3
        · have E : pb k n s x y = stb x y := (if_neg k0).trans ((if_neg k1).trans ((if_neg k2).trans (if_pos k3)))
          rw [E]
          clear E
          subst k3
          clear k0 k1 k2
          go_enter Try.func8, Try.ntmps8
          go_wp2_with fail
          refine (wstamp_any _ B a v bs x y hx hy H.out (by simp; omega) (by omega)).mono ?_
          rintro e w1 ⟨rfl, v1, hW, hE⟩
          have hb1 := (hE.block w.heap.size (by simp) hna hap).trans HB.out
          obtain ⟨c0, c1, c2, c3, c4⟩ := five_cells hb1
          have K := Lib.hid (And.intro hW hE)
          clear hW hE hb1
          go_wp2_with fail
          refine (rstamp_any w1 x y hx hy).mono ?_
          rintro e w2 ⟨r, rfl, ho⟩
          have HO := Lib.hid ho
          clear ho
          go_wp2
          go_returns
          exact ⟨r, rfl, WsOut.of HX.out K.out.1 K.out.2 HO.out⟩
        · have E : pb k n s x y = [] := (if_neg k0).trans ((if_neg k1).trans ((if_neg k2).trans (if_neg k3)))
          rw [E]
          clear E
          have t0 := bneb_ k 0 k0
          have t1 := bneb_ k 1 k1
          have t2 := bneb_ k 2 k2
          have t3 := bneb_ k 3 k3
          clear k0 k1 k2 k3
          go_enter Try.func8, Try.ntmps8
          go_wp2
          go_returns
          refine ⟨_, rfl, ⟨v, by rw [List.append_nil]; exact H.out, Eff.ofBelow a v HX.out⟩, World.ownsRow_nil _ _ _ _⟩
end Go.Proofs.Ytffnopmadjpopab
