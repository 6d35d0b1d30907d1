/- Reader.Text; Open; and on no reader. -/
import Derived.Test.YtifeakmbeaflgaaDoorWRTex
set_option linter.unusedVariables false
namespace Go.Proofs.YtifeakmbeaflgaaDoor.Wi
open Go.RowKit

theorem conv_none (ao : Option Addr) (cap : Nat) (W : World) : (convert 36 9 (.slice ao 0 cap)).run Tryd.prog W = .ok (.string ⟨#[]⟩) W := by
  rw [run_convert_bytes_string W 36 9 5 ao 0 cap Tryd.underlying36 Tryd.underlying5 Tryd.underlying9]
  cases ao with
  | none => simp [Conv.bytesToString]; rfl
  | some b => simp [Conv.bytesToString, loadCells, loadCellsFrom]; rfl

theorem bytesOf_eq (l : List Int) : strOfNums l = bytesOf l := rfl

theorem conv_some {w : World} {g off : Nat} {bs : List Int} (hc : ∀ j x, bs[j]? = some x → w.cell? ⟨g, off + j, none⟩ = some (.int .u8 x)) (n cap : Nat) (hn : n ≤ bs.length) :
    (convert 36 9 (.slice (some ⟨g, off, none⟩) n cap)).run Tryd.prog w = .ok (.string (bytesOf (bs.take n))) w := by
  rw [← bytesOf_eq]
  refine run_convert_bytes_arg w 36 5 Tryd.underlying36 Tryd.underlying5 g off n cap (bs.take n) (by rw [List.length_take]; omega) (fun i hi => ?_) 9 Tryd.underlying9
  have hlt : i < bs.length := by omega
  have e : bs[i]? = some bs[i] := List.getElem?_eq_getElem hlt
  rw [hc i _ e]
  simp [List.getD, hi, e]

theorem RdI.adv0 {w : World} {B M r : Nat} {s : St} (h : RdI w B M r s) {v : Value} (hb : w.heap[r]? = some (.cells #[v, .int .i64 s.bad] 77 (0, 0))) (he : s.bs = []) (ao : Option Addr) (cc : Nat) (hc : cc ≤ maxLen) :
    RdOut w (w.setCell ⟨r, 0, none⟩ (.slice ao 0 cc)) B M r s := by
  refine ⟨⟨h.ge, ⟨_, row_setC hb, ao, cc, by rw [he]; rfl, by rw [he]; exact Nat.zero_le _, hc, fun hne => absurd he hne⟩, h.byt, h.len, by have := h.top; simpa [World.setCell] using this⟩, Kr.set 0 _⟩

theorem RdOut.step {w w1 w2 : World} {B M r : Nat} {s : St} (h : Kr w w1 r) (k : RdOut w1 w2 B M r s) : RdOut w w2 B M r s := ⟨k.1, h.trans k.2⟩

set_option maxRecDepth 100000 in
set_option maxHeartbeats 1000000 in
theorem text_any (w : World) (B M r : Nat) (s : St) (most : Int) (hm : most ≤ 9223372036854775807) (h : RdI w B M r s) (hB : B ≤ w.heap.size) :
    Calls Tryd.prog 59 #[.pointer (some ⟨r, 0, none⟩), .int .i64 most] w fun e w' => e = .returned (.string (s.text most).1) ∧ RdOut w w' B M r (s.text most).2 := by
  have C := Lib.hid (num_any w B M r s h hB)
  have hr := St.num_range s h.byt
  have hS : s.text most = if s.num.2.bad ≠ 0 then (⟨#[]⟩, s.num.2)
    else if s.num.1 > most then (⟨#[]⟩, s.num.2.fail 6)
    else if s.num.1 > s.num.2.bs.length then (⟨#[]⟩, s.num.2.fail 3)
    else (bytesOf (s.num.2.bs.take s.num.1.toNat), ⟨s.num.2.bs.drop s.num.1.toNat, s.num.2.bad⟩) := rfl
  have HS := Lib.hid hS
  clear h hS
  generalize hn : s.num = q at *
  obtain ⟨n, t⟩ := q
  clear hn
  simp only at hr
  go_enter Tryd.func59, Tryd.ntmps59
  go_wp2_with fail
  refine C.out.mono ?_
  rintro e' w1 ⟨rfl, ho⟩
  have HO := Lib.hid ho
  have hT := ho.1
  clear ho
  obtain ⟨ao, cap, hb, hf⟩ := hT.open
  obtain ⟨c0, c1, f0, f1⟩ := two_cells hb
  have HT := Lib.hid hT
  have HB := Lib.hid hb
  have HF := Lib.hid hf
  have hl := hT.len
  clear hT hb hf
  go_wp2_with fail
  refine (bad_any w1 B M r t HT.out).mono ?_
  rintro e' w2 ⟨rfl, rfl⟩
  by_cases g1 : t.bad ≠ 0
  · have t1 := neb_ t.bad 0 g1
    have EH := Lib.hid (HS.out.trans (if_pos g1))
    clear g1
    go_wp2
    go_returns
    exact ⟨by rw [EH.out]; rfl, by rw [EH.out]; exact HO.out⟩
  · have t1 := eqb_ t.bad 0 (by omega)
    have E1 := HS.out.trans (if_neg g1)
    clear g1
    by_cases g2 : n > most
    · have EH := Lib.hid (E1.trans (if_pos g2))
      clear E1
      go_wp2_with fail
      refine (fail_any w1 B M r t 6 HT.out).mono ?_
      rintro e' w2 ⟨rfl, ho2⟩
      have HO2 := Lib.hid ho2
      clear ho2
      go_wp2
      go_returns
      exact ⟨by rw [EH.out]; rfl, by rw [EH.out]; exact ⟨HO2.out.1, HO.out.2.trans HO2.out.2⟩⟩
    · have E2 := E1.trans (if_neg g2)
      clear E1
      by_cases g3 : n > t.bs.length
      · have EH := Lib.hid (E2.trans (if_pos g3))
        clear E2
        go_wp2_with fail
        refine (fail_any w1 B M r t 3 HT.out).mono ?_
        rintro e' w2 ⟨rfl, ho2⟩
        have HO2 := Lib.hid ho2
        clear ho2
        go_wp2
        go_returns
        exact ⟨by rw [EH.out]; rfl, by rw [EH.out]; exact ⟨HO2.out.1, HO.out.2.trans HO2.out.2⟩⟩
      · have EH := Lib.hid (E2.trans (if_neg g3))
        clear E2
        obtain ⟨ao', cap', hv, hcap, hmax, hcells⟩ := HF.out
        injection hv with hv1 hv2 hv3
        subst hv1; subst hv3
        by_cases he : t.bs = []
        · have hl0 : t.bs.length = 0 := by rw [he]; rfl
          obtain rfl : n = 0 := by omega
          have HE := Lib.hid he
          have cv := conv_none
          have hmx := Lib.hid hmax
          unfold maxLen at hmax
          clear he hcells
          rw [hl0] at c0
          clear hl0 hv2
          go_wp2
          all_goals
            go_returns
            rw [EH.out]
            refine ⟨by simp [bytesOf]; try rfl, ?_⟩
            show RdOut _ _ B M r ⟨t.bs.drop 0, t.bad⟩
            rw [show (⟨t.bs.drop 0, t.bad⟩ : St) = t from rfl]
            exact RdOut.step HO.out.2 (HT.out.adv0 HB.out HE.out _ _ (by have := hmx.out; omega))
        · obtain ⟨g, off, rfl, hgr, hcl⟩ := hcells he
          obtain ⟨N, rfl⟩ := Int.eq_ofNat_of_zero_le hr.1
          have hcv := conv_some hcl N cap (by omega)
          have hl1 : 0 < t.bs.length := by
            rcases Nat.eq_zero_or_pos t.bs.length with h0 | h0
            · exact absurd (List.eq_nil_of_length_eq_zero h0) he
            · exact h0
          unfold maxLen at hmax
          clear hcells hcl hgr he
          go_wp2
          all_goals
            go_returns
            rw [EH.out]
            refine ⟨by simp, ?_⟩
            exact RdOut.step HO.out.2 (HT.out.adv HB.out HF.out N (by omega) _ _ _ (by omega) (by omega) (by first | (intro _; rfl) | (intro _; omega)))

set_option maxRecDepth 100000 in
set_option maxHeartbeats 400000 in
theorem open_any (w : World) (v : Value) (bs : List Int) (h : Lies w v bs) (hb : Byt bs) (hl : bs.length ≤ 1000000) :
    Calls Tryd.prog 23 #[v] w fun e w' => ∃ r M, e = .returned (.pointer (some ⟨r, 0, none⟩)) ∧ RdI w' w.heap.size M r ⟨bs, 0⟩ ∧ Below w.heap.size w w' := by
  have H := Lib.hid h
  clear h
  have HB := Lib.hid hb
  clear hb
  go_enter Tryd.func23, Tryd.ntmps23
  go_wp2_with fail
  refine (clone_any w v bs H.out hl).mono ?_
  rintro e' w1 ⟨x, rfl, ho⟩
  have HO := Lib.hid ho
  clear ho
  obtain ⟨ao, cp, rfl⟩ := own_shape HO.out.1
  go_wp2
  go_returns
  refine ⟨w1.heap.size, w1.heap.size, rfl, ⟨HO.out.2.size, ⟨_, heap_alloc_new w1 _, ?_⟩, HB.out, hl, by simp⟩, HO.out.2.alloc HO.out.2.size _⟩
  rcases HO.out.1.2 with ⟨hv, hn⟩ | ⟨g, cap, cur, hv, hBg, hg, hn, hm, hs, ht⟩
  · injection hv with h1 h2 h3
    exact ⟨ao, cp, rfl, by show bs.length ≤ _; omega, by rw [h3]; unfold maxLen; omega, fun hne => absurd (List.eq_nil_of_length_eq_zero hn) hne⟩
  · injection hv with h1 h2 h3
    refine ⟨ao, cp, rfl, by show bs.length ≤ _; omega, by omega, fun hne => ⟨g, 0, h1, ⟨by have := lt_of_block hg; omega, lt_of_block hg⟩, fun j x hj => ?_⟩⟩
    have hj' : (u8s bs)[j]? = some (.int .u8 x) := by simp [u8s, hj]
    have hc := HO.out.1.cells (g := g) (by rw [h1]; rfl) j _ hj'
    have e : (⟨g, 0, none⟩ : Addr).add j = ⟨g, 0 + j, none⟩ := by rw [Addr.add_lit]
    rw [e] at hc
    exact (((Below.refl w1.heap.size w1).alloc (Nat.le_refl _) _).cell (by exact lt_of_block hg)).trans hc
end Go.Proofs.YtifeakmbeaflgaaDoor.Wi
