/- op.Put. Made by genoe7.py. -/
import Derived.Test.YtifeakmbeaflgaaDoorOD
set_option linter.unusedVariables false
namespace Go.Proofs.YtifeakmbeaflgaaDoor
open Go.RowKit
open Wi (WrI Eff WrOut nb stb tb fb)

/-- An op's bytes. -/
def opB (t r q nt nr pt pr : Int) (nm : ByteArray) (d : Bool) : List Int := stb t r ++ (nb q.toNat ++ (stb nt nr ++ (stb pt pr ++ (tb nm ++ fb d))))
/-- The writer at a, and the op's box at b: while Put goes. -/
structure PI (w W : World) (B a b : Nat) (v v' : Value) (bs : List Int) (t r q nt nr pt pr : Int) (nm : ByteArray) (d : Bool) : Prop where
  wr : WrI W B a v' bs
  eff : Eff w W a v v'
  box : OpAt W b t r q nt nr pt pr nm d
  ne : some b ≠ v'.ownBlock
  ba : b ≠ a
  big : B ≤ W.heap.size
theorem PI.step {w W W' : World} {B a b : Nat} {v v' : Value} {bs cs : List Int} {t r q nt nr pt pr : Int} {nm : ByteArray} {d : Bool} (h : PI w W B a b v v' bs t r q nt nr pt pr nm d) (k : WrOut W W' B a v' cs) :
    ∃ v2, PI w W' B a b v v2 cs t r q nt nr pt pr nm d := by
  obtain ⟨v2, h1, h2⟩ := k
  refine ⟨v2, h1, h.eff.trans h2, (h2.block b (lt_of_block h.box) h.ba h.ne).trans h.box, ?_, h.ba, Nat.le_trans h.big h2.size⟩
  rcases h2.spr with e | ⟨x, e, hx⟩
  · rw [e]; exact h.ne
  · rw [e]
    intro c
    injection c with c
    have := lt_of_block h.box
    omega
theorem PI.start {w : World} {B a : Nat} {v : Value} {bs : List Int} {t r q nt nr pt pr : Int} {nm : ByteArray} {d : Bool} (h : WrI w B a v bs) (hB : B ≤ w.heap.size) :
    PI w (w.alloc (.cells #[.int .i64 t, .int .i64 r, .int .i64 q, .int .i64 nt, .int .i64 nr, .int .i64 pt, .int .i64 pr, .string nm, .bool d] 25)) B a w.heap.size v v bs t r q nt nr pt pr nm d := by
  have hX := (Below.refl w.heap.size w).alloc (Nat.le_refl _) (.cells #[.int .i64 t, .int .i64 r, .int .i64 q, .int .i64 nt, .int .i64 nr, .int .i64 pt, .int .i64 pr, .string nm, .bool d] 25)
  refine ⟨h.old hX, Eff.ofBelow a v hX, heap_alloc_new w _, fun c => by have := h.own.lt _ c.symm; omega, by have := lt_of_block h.blk; omega, Nat.le_trans hB hX.size⟩
theorem stb_len (x y : Int) (hx : x ≤ 9223372036854775807) (hy : y ≤ 9223372036854775807) : (stb x y).length ≤ 18 := by
  have h1 := Wi.nb_len9 x.toNat (by omega)
  have h2 := Wi.nb_len9 y.toNat (by omega)
  unfold stb
  rw [List.length_append]
  omega
theorem tb_len (s : ByteArray) (h : s.size ≤ 1000) : (tb s).length ≤ s.size + 9 := by
  have h1 := Wi.nb_len9 s.size (by omega)
  unfold tb
  rw [List.length_append, Wi.strI_len]
  omega
theorem fb_len (b : Bool) : (fb b).length = 1 := by cases b <;> rfl
theorem opB_len (t r q nt nr pt pr : Int) (nm : ByteArray) (d : Bool) (ht : t ≤ 9223372036854775807) (hr : r ≤ 9223372036854775807) (hq : q ≤ 9223372036854775807) (hnt : nt ≤ 9223372036854775807) (hnr : nr ≤ 9223372036854775807) (hpt : pt ≤ 9223372036854775807) (hpr : pr ≤ 9223372036854775807) (hz : nm.size ≤ 1000) : (opB t r q nt nr pt pr nm d).length ≤ nm.size + 73 := by
  have h1 := stb_len t r ht hr
  have h2 := stb_len nt nr hnt hnr
  have h3 := stb_len pt pr hpt hpr
  have h4 := tb_len nm hz
  have h5 := fb_len d
  have h6 := Wi.nb_len9 q.toNat (by omega)
  unfold opB
  simp only [List.length_append]
  omega
set_option maxRecDepth 100000 in
set_option maxHeartbeats 3200000 in
theorem put_any (w : World) (B a : Nat) (v : Value) (bs : List Int) (t r q nt nr pt pr : Int) (nm : ByteArray) (d : Bool) (ht : t ≤ 9223372036854775807) (hr : r ≤ 9223372036854775807) (hq : q ≤ 9223372036854775807) (hnt : nt ≤ 9223372036854775807) (hnr : nr ≤ 9223372036854775807) (hpt : pt ≤ 9223372036854775807) (hpr : pr ≤ 9223372036854775807) (hz : nm.size ≤ 1000) (h : WrI w B a v bs) (hB : B ≤ w.heap.size) (hl : bs.length ≤ 700000) :
    Calls Tryd.prog 19 #[.pointer (some ⟨a, 0, none⟩), .agg #[.int .i64 t, .int .i64 r, .int .i64 q, .int .i64 nt, .int .i64 nr, .int .i64 pt, .int .i64 pr, .string nm, .bool d]] w fun e w' => e = .returned (.tuple #[]) ∧ WrOut w w' B a v (bs ++ opB t r q nt nr pt pr nm d) := by
  have P0 := Lib.hid (PI.start (t := t) (r := r) (q := q) (nt := nt) (nr := nr) (pt := pt) (pr := pr) (nm := nm) (d := d) h hB)
  have E := Lib.hid (show bs ++ opB t r q nt nr pt pr nm d = ((((((bs ++ stb t r) ++ nb q.toNat) ++ stb nt nr) ++ stb pt pr) ++ tb nm) ++ fb d) from by unfold opB; simp only [List.append_assoc])
  have y1 := stb_len t r ht hr
  have y2 := stb_len nt nr hnt hnr
  have y3 := stb_len pt pr hpt hpr
  have y4 := tb_len nm hz
  have y5 := Wi.nb_len9 q.toNat (by omega)
  obtain ⟨b1, hb1⟩ : ∃ x, bs ++ stb t r = x := ⟨_, rfl⟩
  obtain ⟨b2, hb2⟩ : ∃ x, b1 ++ nb q.toNat = x := ⟨_, rfl⟩
  obtain ⟨b3, hb3⟩ : ∃ x, b2 ++ stb nt nr = x := ⟨_, rfl⟩
  obtain ⟨b4, hb4⟩ : ∃ x, b3 ++ stb pt pr = x := ⟨_, rfl⟩
  obtain ⟨b5, hb5⟩ : ∃ x, b4 ++ tb nm = x := ⟨_, rfl⟩
  have l1 : b1.length ≤ 700018 := by rw [← hb1, List.length_append]; omega
  have l2 : b2.length ≤ 700027 := by rw [← hb2, List.length_append]; omega
  have l3 : b3.length ≤ 700045 := by rw [← hb3, List.length_append]; omega
  have l4 : b4.length ≤ 700063 := by rw [← hb4, List.length_append]; omega
  have l5 : b5.length ≤ 701072 := by rw [← hb5, List.length_append]; omega
  rw [hb1, hb2, hb3, hb4, hb5] at E
  have C1 := Lib.hid (fun W v' (h : WrI W B a v' bs) (hB : B ≤ W.heap.size) => hb1 ▸ Wi.wstamp_any W B a v' bs t r ht hr h hB (by omega))
  have C2 := Lib.hid (fun W v' (h : WrI W B a v' b1) (hB : B ≤ W.heap.size) => hb2 ▸ Wi.wnum_any W B a v' b1 q hq h hB (by omega))
  have C3 := Lib.hid (fun W v' (h : WrI W B a v' b2) (hB : B ≤ W.heap.size) => hb3 ▸ Wi.wstamp_any W B a v' b2 nt nr hnt hnr h hB (by omega))
  have C4 := Lib.hid (fun W v' (h : WrI W B a v' b3) (hB : B ≤ W.heap.size) => hb4 ▸ Wi.wstamp_any W B a v' b3 pt pr hpt hpr h hB (by omega))
  have C5 := Lib.hid (fun W v' (h : WrI W B a v' b4) (hB : B ≤ W.heap.size) => hb5 ▸ Wi.wtext_any W B a v' b4 nm (by omega) h hB (by omega))
  have C6 := Lib.hid (fun W v' (h : WrI W B a v' b5) (hB : B ≤ W.heap.size) => Wi.wflag_any W B a v' b5 d h hB (by omega))
  clear h hb1 hb2 hb3 hb4 hb5 l1 l2 l3 l4 l5 y1 y2 y3 y4 y5 ht hr hq hnt hnr hpt hpr hz hl hB
  generalize bs ++ opB t r q nt nr pt pr nm d = res at *
  go_enter Tryd.func19, Tryd.ntmps19
  have := trivial
  go_wp2_with fail
  refine (C1.out _ _ P0.out.wr P0.out.big).mono ?_
  rintro e w1 ⟨rfl, hW⟩
  obtain ⟨v1, hP⟩ := P0.out.step hW
  have P1 := Lib.hid hP
  clear hP hW this
  obtain ⟨c0, c1, c2, c3, c4, c5, c6, c7, c8⟩ := P1.out.box.cells
  go_wp2_with fail
  refine (C2.out _ _ P1.out.wr P1.out.big).mono ?_
  rintro e w2 ⟨rfl, hW⟩
  obtain ⟨v2, hP⟩ := P1.out.step hW
  have P2 := Lib.hid hP
  clear hP hW c0 c1 c2 c3 c4 c5 c6 c7 c8
  obtain ⟨c0, c1, c2, c3, c4, c5, c6, c7, c8⟩ := P2.out.box.cells
  go_wp2_with fail
  refine (C3.out _ _ P2.out.wr P2.out.big).mono ?_
  rintro e w3 ⟨rfl, hW⟩
  obtain ⟨v3, hP⟩ := P2.out.step hW
  have P3 := Lib.hid hP
  clear hP hW c0 c1 c2 c3 c4 c5 c6 c7 c8
  obtain ⟨c0, c1, c2, c3, c4, c5, c6, c7, c8⟩ := P3.out.box.cells
  go_wp2_with fail
  refine (C4.out _ _ P3.out.wr P3.out.big).mono ?_
  rintro e w4 ⟨rfl, hW⟩
  obtain ⟨v4, hP⟩ := P3.out.step hW
  have P4 := Lib.hid hP
  clear hP hW c0 c1 c2 c3 c4 c5 c6 c7 c8
  obtain ⟨c0, c1, c2, c3, c4, c5, c6, c7, c8⟩ := P4.out.box.cells
  go_wp2_with fail
  refine (C5.out _ _ P4.out.wr P4.out.big).mono ?_
  rintro e w5 ⟨rfl, hW⟩
  obtain ⟨v5, hP⟩ := P4.out.step hW
  have P5 := Lib.hid hP
  clear hP hW c0 c1 c2 c3 c4 c5 c6 c7 c8
  obtain ⟨c0, c1, c2, c3, c4, c5, c6, c7, c8⟩ := P5.out.box.cells
  go_wp2_with fail
  refine (C6.out _ _ P5.out.wr P5.out.big).mono ?_
  rintro e w6 ⟨rfl, hW⟩
  obtain ⟨v6, hP⟩ := P5.out.step hW
  have P6 := Lib.hid hP
  clear hP hW c0 c1 c2 c3 c4 c5 c6 c7 c8
  go_wp2
  go_returns
  exact ⟨rfl, v6, by rw [E.out]; exact P6.out.wr, P6.out.eff⟩
end Go.Proofs.YtifeakmbeaflgaaDoor
