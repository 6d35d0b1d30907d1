/- Append, where there is room, and no other segment is begun. Made by genjc12.py. -/
import Derived.Test.YtgbihpfpiaacfaaGreatDoorJD
set_option linter.unusedVariables false
set_option linter.unusedSimpArgs false
set_option maxRecDepth 100000
namespace Go.Proofs.YtgbihpfpiaacfaaGreatDoor
open Go.RowKit Go.Shelf Go.WideMaps Go.Maps

set_option maxHeartbeats 6400000 in
theorem japp_fit (w : World) (B q d : Nat) (s : DS) (most f : Int) (l : Nat) (sz : Int) (h : JK w B q d s most f l sz) (hl : 1 ≤ l ∧ l < 100) (hsz : 0 ≤ sz ∧ sz ≤ 100000000) (hll : s.l.length < 1000) (hf : fnd s (sg l) = 0) (ha : s.ar = false)
    (v : Value) (b : List Nat) (hv : Rc.Lies w v b) (hb : Rc.Byt b) (hbs : b.length ≤ 1000) (hfit : ((b.length + 8 : Nat) : Int) ≤ s.room - (usedF s.l : Int)) (hm : sz = 0 ∨ sz + ((b.length + 8 : Nat) : Int) ≤ most) :
    Calls Tryz.prog 14 #[.pointer (some ⟨q, 0, none⟩), v] w fun e w' => e = .returned (.int .i64 0) ∧ ∃ a' c', JK w' B q d { s with l := setF s.l ⟨sg l, a', c', (fval s (sg l)).b ++ bi (Rc.rec b), lenI ((fval s (sg l)).b ++ bi (Rc.rec b))⟩ } most f l (sz + ((b.length + 8 : Nat) : Int)) ∧ Far (Lh d s q) w w' := by
  have PU := Lib.hid (Rc.put_any w v b hv hb (by omega))
  have HJ := Lib.hid h
  have SN := Lib.hid (fnd_some hf)
  have HH := Lib.hid (And.intro hl (And.intro hsz (And.intro hll (And.intro hf ha))))
  have HB2 := Lib.hid (And.intro hbs (And.intro hfit hm))
  have RL := Lib.hid (Rc.rec_length b)
  have BL := Lib.hid (bi_len (Rc.rec b))
  obtain ⟨va, vc, rfl, -⟩ := id hv
  clear hv h hsz hll hf ha hb
  go_enter Tryz.func14, Tryz.ntmps14
  go_wp2_with fail
  refine PU.out.mono ?_
  rintro e w1 ⟨r, rfl, hr, hb1⟩
  have J1 := Lib.hid (HJ.out.step hb1)
  have B1 := Lib.hid hb1
  have OR := Lib.hid (own_bi hr)
  have NV := Lib.hid (fun (j : Nat) (hj : r.ownBlock = some j) (hk : Has d s j) => (show False from by
    have h1 := (hr.lt j hj).1
    have h2 := (HJ.out.dk.base j hk).2
    omega))
  have LR := Lib.hid (own_liesK encB_len (own_bi hr))
  obtain ⟨ra, rc, rfl⟩ := own_shapeK hr
  obtain ⟨n, hn⟩ : ∃ n, b.length + 8 = n := ⟨_, rfl⟩
  have c0 : w1.cell? ⟨q, 0, none⟩ = some (pv d) := (cell_of_row _ _ _ _ _ _ J1.out.box).trans rfl
  have DW := Lib.hid (down_any w1 B d s J1.out.dk)
  rw [SN.out.2] at DW
  have FR := Lib.hid (free_any w1 B d s J1.out.dk)
  clear hr hb1 PU
  go_wp2_with fail
  refine DW.out.mono ?_
  rintro e w2 ⟨rfl, rfl⟩
  go_wp2_with fail
  refine FR.out.mono ?_
  rintro e w3 ⟨rfl, hb3⟩
  have J3 := Lib.hid (J1.out.step hb3)
  have B3 := Lib.hid (B1.out.trans (hb3.mono B1.out.size))
  have L3 := Lib.hid (LR.out.step hb3)
  have hgt : ¬ ((s.room - (usedF s.l : Int)) < ((Rc.rec b).length : Int)) := by have := HB2.out.2.1; have := RL.out; omega
  have WR := Lib.hid (fun (W : World) (hW : Below w3.heap.size w3 W) => write_fit W B q d s most f l sz (J3.out.step hW) HH.out.1 HH.out.2.1 HH.out.2.2.1 HH.out.2.2.2.1 HH.out.2.2.2.2 (.slice ra (Rc.rec b).length rc) (bi (Rc.rec b)) (L3.out.step hW)
    (fun _ => NV.out) (by have := BL.out; have := RL.out; have := HB2.out.1; omega) (by have := BL.out; have := RL.out; have := HB2.out.2.1; omega))
  have EL := Lib.hid (show ((bi (Rc.rec b)).length : Int) = ((b.length + 8 : Nat) : Int) from by rw [BL.out, RL.out])
  rw [EL.out] at WR
  have c4 : w3.cell? ⟨q, 4, none⟩ = some (.int .i64 sz) := (cell_of_row _ _ _ _ _ _ J3.out.box).trans rfl
  have c1 : w3.cell? ⟨q, 1, none⟩ = some (.int .i64 most) := (cell_of_row _ _ _ _ _ _ J3.out.box).trans rfl
  have DR := Lib.hid (fun n => (show Below w3.heap.size w3 (w3.drewN n) from ⟨rfl, rfl, rfl, Nat.le_refl _, fun _ _ => rfl⟩))
  obtain ⟨L, hL⟩ : ∃ L, (Rc.rec b).length = L := ⟨_, rfl⟩
  have HL := Lib.hid (show ((L : Nat) : Int) = ((b.length + 8 : Nat) : Int) from by rw [← hL, RL.out])
  rw [hL] at hgt WR
  try rw [hL]
  clear hb3 hL c0 FR DW LR
  go_upto_region 10 with (fail)
  by_cases h0 : 0 < sz
  · have hw : IntKind.i64.wrap (sz + (L : Int)) = sz + (L : Int) := by
      have := HL.out; have := HB2.out.1; have := HH.out.2.1
      rw [IntKind.wrap_i64]
      omega
    have hw2 : wrap64 (sz + (L : Int)) = sz + (L : Int) := by
      have := HL.out; have := HB2.out.1; have := HH.out.2.1
      unfold wrap64
      omega
    have hno : ¬ (most < sz + (L : Int)) := by have := HB2.out.2.2; have := HL.out; omega
    go_quiet (fail)
    go_wp2_with fail
    refine (WR.out _ (DR.out _)).mono ?_
    rintro e w5 ⟨rfl, a1, c1, hj, hfar⟩
    have FIN := Lib.hid (And.intro hj ((Far.of_below (P := Lh d s q) (B3.out.trans ((DR.out _).mono B3.out.size))).trans hfar (fun _ _ e => e)))
    clear hj hfar
    go_wp2
    go_returns
    first | exact ⟨rfl, ⟨a1, c1, FIN.out.1⟩, FIN.out.2⟩ | exact ⟨rfl, a1, c1, FIN.out⟩
  · go_quiet (fail)
    go_wp2_with fail
    refine (WR.out _ (DR.out _)).mono ?_
    rintro e w5 ⟨rfl, a1, c1, hj, hfar⟩
    have FIN := Lib.hid (And.intro hj ((Far.of_below (P := Lh d s q) (B3.out.trans ((DR.out _).mono B3.out.size))).trans hfar (fun _ _ e => e)))
    clear hj hfar
    go_wp2
    go_returns
    first | exact ⟨rfl, ⟨a1, c1, FIN.out.1⟩, FIN.out.2⟩ | exact ⟨rfl, a1, c1, FIN.out⟩
end Go.Proofs.YtgbihpfpiaacfaaGreatDoor
