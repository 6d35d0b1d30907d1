/- RecordFirsts, walked. -/
import Derived.Test.YtpklcddfoegogaaReG
import Derived.Test.YtpklcddfoegogaaReH
set_option linter.unusedVariables false
namespace Go.Proofs.Ytpklcddfoegogaa
open Go.RowKit

set_option maxRecDepth 100000 in
set_option maxHeartbeats 800000 in
theorem firsts_big (w : World) (a a' : Option Addr) (n n' c c' : Nat) (h : 400 < n ∨ 400 < n') :
    Calls Try.prog 3 #[.slice a n c, .slice a' n' c'] w fun e w' => e = .returned (.bool true) ∧ Below w.heap.size w w' := by
  have A := Lib.hid awake_any
  by_cases h1 : 400 < n
  · clear h
    go_enter Try.func3, Try.ntmps3
    go_wp2_with fail
    refine (A.out _).mono ?_
    rintro e w1 ⟨rfl, hb⟩
    have HB := Lib.hid hb
    clear hb
    go_wp2
    go_returns
    exact ⟨rfl, HB.out⟩
  · have h2 : 400 < n' := by omega
    clear h
    go_enter Try.func3, Try.ntmps3
    go_wp2_with fail
    refine (A.out _).mono ?_
    rintro e w1 ⟨rfl, hb⟩
    have HB := Lib.hid hb
    clear hb
    go_wp2
    go_returns
    exact ⟨rfl, HB.out⟩

set_option maxRecDepth 100000 in
set_option maxHeartbeats 3200000 in
theorem firsts_small (w : World) (v v' : Value) (bs cs : List Nat) (h : Lies w v bs) (h' : Lies w v' cs) (hb : Byt bs) (hc : Byt cs) (hl : bs.length ≤ 400) (hl' : cs.length ≤ 400) :
    Calls Try.prog 3 #[v, v'] w fun e w' => e = .returned (.bool true) ∧ Below w.heap.size w w' := by
  obtain ⟨i0, hi, hz0, hz1, hz2⟩ := info_parts Try.info5
  have A := Lib.hid awake_any
  have H := Lib.hid h
  have H' := Lib.hid h'
  have hrl := rec_length bs
  have hrb : Byt (rec bs) := rec_byt hb
  have P := Lib.hid (put_any w v bs h hb (by omega))
  have RP := Lib.hid (fun W (hW : Below w.heap.size w W) => rput_any W v bs (h.later hW) hb (by omega))
  have F1 := Lib.hid (fun W (hW : Below w.heap.size w W) => first_any W v' cs (h'.later hW) hc (by omega))
  have F2 := fun W (hW : Below w.heap.size w W) => rfirst_any W v' cs 0 (h'.later hW) hc (Nat.zero_le _) (by omega)
  rw [List.drop_zero] at F2
  have F2 := Lib.hid F2
  have F3 := fun W u (hu : Lies W u (rec bs ++ cs)) => first_any W u _ hu (hrb.append hc) (by rw [List.length_append, hrl]; omega)
  rw [fst_rec bs cs (by omega)] at F3
  have F3 := Lib.hid F3
  have S1 := Lib.hid (fun W v1 v2 h1 h2 => same_any W v1 v2 (rec bs) h1 h2)
  have S2 := Lib.hid (fun W v1 v2 h1 h2 => same_any W v1 v2 (fst cs).1 h1 h2)
  have S3 := Lib.hid (fun W v1 (h1 : Lies W v1 bs) (hW : Below w.heap.size w W) => same_any W v1 v bs h1 (h.later hW))
  have Z := Lib.hid (fun W => size_nat W bs.length (by omega))
  generalize fst cs = q at *
  obtain ⟨x, c0, e0⟩ := q
  dsimp only at F1 F2 S2 F3
  generalize rec bs = rr at *
  have HRL := Lib.hid hrl
  obtain ⟨ao, cap, rfl, _⟩ := h
  obtain ⟨ao', cap', rfl, _⟩ := h'
  clear hb hc hrl hrb
  go_enter Try.func3, Try.ntmps3
  go_wp2_with fail
  refine P.out.mono ?_
  rintro e w1 ⟨r, rfl, ho⟩
  have B1 := Lib.hid ho.2
  have O1 := Lib.hid ho.1
  obtain ⟨ra, rc, rfl⟩ := own_shape ho.1
  rw [HRL.out] at O1 ⊢
  clear ho
  go_wp2_with fail
  refine (F1.out _ B1.out).mono ?_
  rintro e w2 ⟨r2, rfl, hr, hb⟩
  have B2 := Lib.hid (B1.out.trans (hb.mono B1.out.size))
  have O2 := Lib.hid (own_kept O1.out hb)
  have L2 := Lib.hid hr
  obtain ⟨r2a, r2c, rfl⟩ := lies_shape hr
  clear hr hb
  go_wp2_with fail
  refine (F2.out _ B2.out).mono ?_
  rintro e w3 ⟨r3, rfl, hr, hb⟩
  have B3 := Lib.hid (B2.out.trans (hb.mono B2.out.size))
  have O3 := Lib.hid (own_kept O2.out hb)
  have L3 := Lib.hid (L2.out.later hb)
  have M3 := Lib.hid hr
  obtain ⟨r3a, r3c, rfl⟩ := lies_shape hr
  clear hr hb
  go_wp2_with fail
  refine (RP.out _ B3.out).mono ?_
  rintro e w4 ⟨r4, rfl, ho⟩
  have B4 := Lib.hid (B3.out.trans (ho.2.mono B3.out.size))
  have O4 := Lib.hid (own_kept O3.out ho.2)
  have L4 := Lib.hid (L3.out.later ho.2)
  have M4 := Lib.hid (M3.out.later ho.2)
  have K4 := Lib.hid (own_lies ho.1)
  obtain ⟨r4a, r4c, rfl⟩ := own_shape ho.1
  rw [HRL.out] at K4 ⊢
  have N4 := Lib.hid (own_lies (bs := rr) (by rw [HRL.out]; exact O4.out))
  clear ho
  go_wp2_with fail
  refine (S1.out _ _ _ N4.out K4.out).mono ?_
  rintro e w5 ⟨rfl, hb⟩
  have B5 := Lib.hid (B4.out.trans (hb.mono B4.out.size))
  have O5 := Lib.hid (own_kept O4.out hb)
  have L5 := Lib.hid (L4.out.later hb)
  have M5 := Lib.hid (M4.out.later hb)
  clear hb
  go_wp2_with fail
  refine (Z.out _).mono ?_
  rintro e w5b ⟨rfl, rfl⟩
  go_wp2_with fail
  refine (S2.out _ _ _ L5.out M5.out).mono ?_
  rintro e w6 ⟨rfl, hb⟩
  have B6 := Lib.hid (B5.out.trans (hb.mono B5.out.size))
  have O6 := Lib.hid (own_kept O5.out hb)
  have HS := Lib.hid (H'.out.later B6.out).src
  clear hb
  go_wp2_with (at_builtin; refine wpList_append_src_own rfl (.tmp 76) (.tmp 77) 22 22 rfl w.heap.size 5 i0 (.int .u8 0) 1 1 Try.underlying22 hi hz0 hz1 hz2 rfl (by decide) _ (bs.length + 8) (u8s rr) rfl O6.out _ cs.length (u8s cs) rfl HS.out (by unfold maxLen; omega) (by omega) (B6.out.size) ?_; intro v7 w7 hown hgr hspr; have K7 := Lib.hid (And.intro hown (B6.out.grown hgr B6.out.size (fun k hk => (O6.out.lt k hk).1))); clear hown hgr hspr)
  have hK := K7.out.1
  have hlen : (rr ++ cs).length = bs.length + 8 + cs.length := by rw [List.length_append, HRL.out]
  rw [← u8s_append, ← hlen] at hK
  have L7 := Lib.hid (own_lies hK)
  have B7 := Lib.hid K7.out.2
  obtain ⟨r7a, r7c, rfl⟩ := own_shape hK
  clear hK K7 hlen
  refine (F3.out _ _ L7.out).mono ?_
  rintro e w8 ⟨r8, rfl, hr, hb⟩
  have B8 := Lib.hid (B7.out.trans (hb.mono B7.out.size))
  have L8 := Lib.hid hr
  obtain ⟨r8a, r8c, rfl⟩ := lies_shape hr
  clear hr hb
  go_wp2_with fail
  refine (S3.out _ _ L8.out B8.out).mono ?_
  rintro e w9 ⟨rfl, hb⟩
  have B9 := Lib.hid (B8.out.trans (hb.mono B8.out.size))
  clear hb
  go_wp2_with fail
  refine (Z.out _).mono ?_
  rintro e w9b ⟨rfl, rfl⟩
  go_wp2_with fail
  refine (size_no _).mono ?_
  rintro e w9c ⟨rfl, rfl⟩
  go_wp2_with fail
  refine (A.out _).mono ?_
  rintro e w10 ⟨rfl, hb⟩
  have B10 := Lib.hid (B9.out.trans (hb.mono B9.out.size))
  clear hb
  go_wp2
  go_returns
  exact ⟨rfl, B10.out⟩

theorem firsts_all (w : World) (v v' : Value) (bs cs : List Nat) (h : Lies w v bs) (h' : Lies w v' cs) (hb : Byt bs) (hc : Byt cs) :
    Calls Try.prog 3 #[v, v'] w fun e w' => e = .returned (.bool true) ∧ Below w.heap.size w w' := by
  by_cases hl : 400 < bs.length ∨ 400 < cs.length
  · obtain ⟨ao, cap, rfl, _⟩ := h
    obtain ⟨ao', cap', rfl, _⟩ := h'
    exact firsts_big w ao ao' _ _ cap cap' hl
  · exact firsts_small w v v' bs cs h h' hb hc (by omega) (by omega)
end Go.Proofs.Ytpklcddfoegogaa
