/- What an act does to both. Made by genop.py. -/
import Derived.Test.YtdocfoienbadhaaOI
set_option linter.unusedVariables false
namespace Go.Proofs.Ytdocfoienbadhaa
open Go.RowKit

theorem DS.toDM {w0 W : World} {p q : Nat} {fv rv : Value} {fl rl : List Fl} {lost : Int} (h : DS w0 W p q fv rv fl rl lost) : DM w0 W p q fv rv fl rl lost lost := ⟨h.net, h.bel, h.box, h.qB, h.qn, h.rows⟩
theorem DM.kp {w0 W W9 : World} {p q : Nat} {fv rv fv' : Value} {fl rl fl' : List Fl} {lost lost' lost'' : Int} (h : DM w0 W p q fv rv fl rl lost lost') (hn : NetAt w0.heap.size W9 p fv' fl' lost'') (hb : Below w0.heap.size w0 W9) (k : Kp W W9 p fv fl fv' fl') :
    DM w0 W9 p q fv' rv fl' rl lost'' lost' := by
  have hlt := lt_of_block h.box
  have hq : ¬ NOwn p fv' fl' q := fun e => (k.own q e).elim h.qn (fun x => by omega)
  exact ⟨hn, hb, (k.keep q hlt h.qn).trans h.box, h.qB, hq, h.rows.move k.size fun j hj hnj => ⟨k.keep j hj (fun e => hnj (.inl e)), fun e => e.elim (fun e => (k.own j e).elim (fun e => hnj (.inl e)) (fun x => by omega)) (fun e => hnj (.inr e))⟩⟩
theorem DM.put {w0 W W5 : World} {p q : Nat} {fv rv rv' : Value} {fl rl rl' : List Fl} {lost lost0 lost' : Int} (h : DM w0 W p q fv rv fl rl lost lost0) (hb : Below W.heap.size W W5) (hr : RowsN (Or1 (NOwn p fv fl) q) W5 rv' rl') :
    DM w0 (set2 W5 q rv' (.int .i64 lost')) p q fv rv' fl rl' lost lost' := by
  have h5 := h.step hb
  have hp : p ≠ q := fun e => h.qn (.inl e.symm)
  have hv : fv.ownBlock ≠ some q := fun e => h.qn (.inr (.inl e))
  have hf : ∀ f ∈ fl, f.bv.ownBlock ≠ some q := fun f hf e => h.qn (.inr (.inr ⟨f, hf, e⟩))
  exact ⟨net_set (net_set h5.net q 0 rv' hp hv hf) q 1 (.int .i64 lost') hp hv hf, below_set2 h5.bel h.qB _ _, set2_row h5.box _ _, h.qB, h.qn,
    hr.move (by unfold set2; simp) fun k hk hn => ⟨set2_other (fun e => hn (.inr e)), hn⟩⟩
theorem DM.toDS {w0 W : World} {p q : Nat} {fv rv : Value} {fl rl : List Fl} {lost : Int} (h : DM w0 W p q fv rv fl rl lost lost) (hp : fl.map pu = rl.map pu) : DS w0 W p q fv rv fl rl lost := ⟨h.net, h.bel, h.box, h.qB, h.qn, h.rows, hp⟩
theorem DM.own_lt {w0 W : World} {p q : Nat} {fv rv : Value} {fl rl : List Fl} {lost lost' : Int} (h : DM w0 W p q fv rv fl rl lost lost') : ∀ k, Or1 (NOwn p fv fl) q k → k < W.heap.size :=
  fun k hk => hk.elim (fun hk => (h.net.own_lt hk).2) (fun e => by rw [e]; exact lt_of_block h.box)
theorem RowsN.turn {N : Nat → Prop} {W : World} {v : Value} {rl : List Fl} {a b : Nat} (h : RowsN (Or1 (Or1 N a) b) W v rl) : RowsN (Or1 (Or1 N b) a) W v rl :=
  h.move (Nat.le_refl _) fun k _ hn => ⟨rfl, fun e => hn (e.elim (fun e => e.elim (fun e => .inl (.inl e)) .inr) (fun e => .inl (.inr e)))⟩
/-- Both boxes written. -/
theorem take_fin {N : Nat → Prop} {W V : World} {b7 b8 : Nat} {a5 : Option Addr} {c5 : Nat} {rl' : List Fl} (lost d : Int) (a2 : Option Addr) (n2 c2 : Nat) (hu : Bool) (hb : Below W.heap.size W V) (h7 : V.heap[b7]? = some (.cells #[.slice none 0 0, .int .i64 0] 29 (0, 0))) (h8 : V.heap[b8]? = some (.cells #[.int .i64 0, .slice none 0 0, .bool false] 32 (0, 0)))
    (l7 : W.heap.size ≤ b7) (l8 : W.heap.size ≤ b8) (ne : b7 ≠ b8) (hr : RowsN (Or1 (Or1 N b7) b8) V (.slice a5 rl'.length c5) rl') :
    ∃ V1 V2, (Instr.storeAt 29 (.pointer (some ⟨b7, 0, none⟩)) (.agg #[.slice a5 rl'.length c5, .int .i64 lost])).run Try.prog V = .ok () V1 ∧ (Instr.storeAt 32 (.pointer (some ⟨b8, 0, none⟩)) (.agg #[.int .i64 d, .slice a2 n2 c2, .bool hu])).run Try.prog V1 = .ok () V2 ∧
      Below W.heap.size W V1 ∧ Below W.heap.size W V2 ∧ V2.heap[b7]? = some (.cells #[.slice a5 rl'.length c5, .int .i64 lost] 29 (0, 0)) ∧ V2.heap[b8]? = some (.cells #[.int .i64 d, .slice a2 n2 c2, .bool hu] 32 (0, 0)) ∧ RowsN N V2 (.slice a5 rl'.length c5) rl' := by
  have g8 := (set2_other (x := .slice a5 rl'.length c5) (y := .int .i64 lost) (fun e => ne e.symm : b8 ≠ b7)).trans h8
  refine ⟨set2 V b7 (.slice a5 rl'.length c5) (.int .i64 lost), put3 (set2 V b7 (.slice a5 rl'.length c5) (.int .i64 lost)) b8 0 ⟨d, .slice a2 n2 c2, [], hu⟩, store29 V b7 a5 rl'.length c5 lost _ _ h7, store32_box _ b8 _ _ _ g8 ⟨d, .slice a2 n2 c2, [], hu⟩ a2 n2 c2 rfl, below_set2 hb l7 _ _, below_put3' (below_set2 hb l7 _ _) _ _ _ l8,
    (put3_other ne).trans (set2_row h7 _ _), put3_row g8 _, hr.move (by unfold put3 set2; simp) fun k hk hn => ⟨(put3_other (fun e => hn (.inr e))).trans (set2_other (fun e => hn (.inl (.inr e)))), fun e => hn (.inl (.inl e))⟩⟩
set_option maxRecDepth 100000 in
set_option maxHeartbeats 12800000 in
theorem does_take {w0 : World} (w : World) (p q : Nat) (fv rv : Value) (fl rl : List Fl) (lost : Int) (h : DS w0 w p q fv rv fl rl lost) (k m b d : Int) (ab : Option Addr) (bs : List Nat) (cb : Nat) (hu : Bool) (rl' : List Fl) (ec : Int)
    (d1 : Int) (a2 : Option Addr) (b1 : List Nat) (c2 : Nat) (h1 : Bool)
    (CL : ∀ (N : Nat → Prop) (W : World), RowsN N W rv rl → LiesN N W (.slice a2 b1.length c2) b1)
    (CR : ∀ (N : Nat → Prop) (W : World), (∀ j, N j → j < W.heap.size) → RowsN N W rv rl → Calls Try.prog 20 #[.agg #[rv, .int .i64 lost], .int .i64 k] W fun e w' => ∃ rv', e = .returned (.tuple #[.agg #[rv', .int .i64 lost], .agg #[.int .i64 d1, .slice a2 b1.length c2, .bool h1], .int .i64 ec]) ∧ RowsN N w' rv' rl' ∧ Below W.heap.size W w')
    (CP : ∀ (W : World), NetAt w0.heap.size W p fv fl lost → Below w0.heap.size w0 W → Calls Try.prog 14 #[.pointer (some ⟨p, 0, none⟩), .int .i64 k] W fun e w' => ∃ fv' fl' v1, e = .returned (.tuple #[.agg #[.int .i64 d1, v1, .bool h1], .int .i64 ec]) ∧ NetAt w0.heap.size w' p fv' fl' lost ∧ Below w0.heap.size w0 w' ∧ w'.ownsRow W.heap.size 5 1 v1 b1.length (u8s b1) ∧ Kp W w' p fv fl fv' fl' ∧ fl'.map pu = rl'.map pu) :
    Calls Try.prog 7 #[.pointer (some ⟨p, 0, none⟩), .pointer (some ⟨q, 0, none⟩), .agg #[.int .i64 3, .int .i64 k, .int .i64 m, .int .i64 b, .int .i64 d, .slice ab bs.length cb, .bool hu]] w fun e w' => e = .returned (.bool true) ∧ ∃ fv' rv' fl', DS w0 w' p q fv' rv' fl' rl' lost := by
  have HD := Lib.hid h
  obtain ⟨ar, cr, rfl⟩ := h.rows.shape
  obtain ⟨W1, e1, B1, R1, s1⟩ := boxed w #[.int .i64 3, .int .i64 k, .int .i64 m, .int .i64 b, .int .i64 d, .slice ab bs.length cb, .bool hu] 34
  have E1 := Lib.hid e1
  have D1 := Lib.hid (HD.out.step B1)
  have HCR := Lib.hid CR
  have HCL := Lib.hid CL
  have HCP := Lib.hid (CP W1 D1.out.net D1.out.bel)
  have HQZ : q ≠ w.heap.size := by have := lt_of_block h.box; omega
  have HZN : ¬ NOwn p fv fl w.heap.size := fun e => by have := (h.net.own_lt e).2; omega
  obtain ⟨z, hz⟩ : ∃ z, w.heap.size = z := ⟨_, rfl⟩
  rw [hz] at R1 HQZ HZN
  have R1' := Lib.hid R1
  have QZ := Lib.hid (And.intro HQZ HZN)
  have k0 := cell_of_row _ z 0 _ _ _ R1
  have k1 := cell_of_row _ z 1 _ _ _ R1
  simp at k0 k1
  clear h e1 B1 R1 s1 CR CP CL HQZ HZN
  have HZ := Lib.hid hz
  go_enter Try.func7, Try.ntmps7
  go_upto_region 1 with (fail)
  rw [E1.out]
  go_upto_region 10 with (fail)
  go_wp2_with fail
  refine HCP.out.mono ?_
  rintro e w3 ⟨fv', fl', v1, rfl, hn3, hb3, hv3, hk3, hp3⟩
  have D3 := D1.out.toDM.kp hn3 hb3 hk3
  obtain ⟨a1, c1, hv1⟩ := own_shape hv3
  rw [hv1] at hv3 ⊢
  obtain ⟨W4, e4, B4, R4, s4⟩ := boxed w3 #[.int .i64 d1, .slice a1 b1.length c1, .bool h1] 39
  have E4 := Lib.hid e4
  have D4 := Lib.hid (D3.step B4)
  have V4 := Lib.hid (own_kept hv3 B4)
  have RZ3 := (hk3.keep z (lt_of_block R1'.out) QZ.out.2).trans R1'.out
  have RZ4 := Lib.hid ((B4.block _ (lt_of_block RZ3)).trans RZ3)
  have HQ1 : q < W1.heap.size := lt_of_block D1.out.box
  have HQ3 : q < w3.heap.size := Nat.lt_of_lt_of_le HQ1 hk3.size
  have HPU := Lib.hid hp3
  have VQ := Lib.hid (show ∀ j, (Value.slice a1 b1.length c1).ownBlock = some j → j ≠ q from fun j hj => by have := (hv3.lt j hj).1; omega)
  obtain ⟨b9, hb9⟩ : ∃ b, w3.heap.size = b := ⟨_, rfl⟩
  rw [hb9] at R4 HQ3
  have R9 := Lib.hid R4
  have N9 := Lib.hid (show b9 ≠ q by omega)
  clear hn3 hb3 hv3 hk3 hp3 D3 B4 R4 s4 e4 k0 k1 RZ3 HQ1 HQ3 HCP
  go_upto_region 11 with (fail)
  rw [E4.out]
  go_cut [11, 12, 13] from 63 to 72 (fun xv yv ev wx => ∃ b7 b8 a7 c7, xv = .pointer (some ⟨b7, 0, none⟩) ∧ yv = .pointer (some ⟨b8, 0, none⟩) ∧ ev = .int .i64 ec ∧ Below W4.heap.size W4 wx ∧ b7 ≠ q ∧ wx.heap[b7]? = some (.cells #[.slice a7 rl'.length c7, .int .i64 lost] 29 (0, 0)) ∧ wx.heap[b8]? = some (.cells #[.int .i64 d1, .slice a2 b1.length c2, .bool h1] 32 (0, 0)) ∧ b8 ≠ q ∧ RowsN (Or1 (NOwn p fv' fl') q) wx (.slice a7 rl'.length c7) rl')
  case first =>
    have DB := Lib.hid (show Below W4.heap.size W4 W4.drew from below_drewN W4 1)
    have D2 := Lib.hid (D4.out.step DB.out)
    have H0 := Lib.hid (show W4.drew.heap[q]? = some (.cells #[.slice ar rl.length cr, .int .i64 lost] 29 (0, 0)) ∧ W4.drew.heap[z]? = some (.cells #[.int .i64 3, .int .i64 k, .int .i64 m, .int .i64 b, .int .i64 d, .slice ab bs.length cb, .bool hu] 34 (0, 0)) from ⟨D2.out.box, RZ4.out⟩)
    have STP := Lib.hid (fun (W : World) (hb : Below W4.drew.heap.size W4.drew W) => show W.heap[q]? = some (.cells #[.slice ar rl.length cr, .int .i64 lost] 29 (0, 0)) ∧ W.heap[z]? = some (.cells #[.int .i64 3, .int .i64 k, .int .i64 m, .int .i64 b, .int .i64 d, .slice ab bs.length cb, .bool hu] 34 (0, 0)) from ⟨(hb.block _ (lt_of_block H0.out.1)).trans H0.out.1, (hb.block _ (lt_of_block H0.out.2)).trans H0.out.2⟩)
    have LQ := Lib.hid (fun (W : World) (h : W.heap[q]? = some (.cells #[.slice ar rl.length cr, .int .i64 lost] 29 (0, 0)) ∧ W.heap[z]? = some (.cells #[.int .i64 3, .int .i64 k, .int .i64 m, .int .i64 b, .int .i64 d, .slice ab bs.length cb, .bool hu] 34 (0, 0))) => load29 W q ar rl.length cr lost h.1)
    have Lk := Lib.hid (fun (W : World) (h : W.heap[q]? = some (.cells #[.slice ar rl.length cr, .int .i64 lost] 29 (0, 0)) ∧ W.heap[z]? = some (.cells #[.int .i64 3, .int .i64 k, .int .i64 m, .int .i64 b, .int .i64 d, .slice ab bs.length cb, .bool hu] 34 (0, 0))) => load3 W ⟨z, 1, none⟩ k (by rw [cell_of_row _ z 1 _ _ _ h.2]; rfl))
    have BV := Lib.hid (show Below W4.drew.heap.size W4.drew W4.drew from Below.refl _ _)
    unfold nv at LQ
    refine wp_region_held_drew (S := fun w' => w'.heap[q]? = some (.cells #[.slice ar rl.length cr, .int .i64 lost] 29 (0, 0)) ∧ w'.heap[z]? = some (.cells #[.int .i64 3, .int .i64 k, .int .i64 m, .int .i64 b, .int .i64 d, .slice ab bs.length cb, .bool hu] 34 (0, 0))) (by kernel_rfl) H0.out (fun hHeld => ?_)
    refine take_at (i := 0) 64 ?_ rfl rfl (by kernel_rfl) (by kernel_rfl) (by kernel_rfl) (fun _ _ _ h => h) (.inl ⟨rfl, ?_⟩) hHeld ?_
    rotate_left 1
    · intro w hSw; go_simp; try with_reducible rfl
    simp only [Act.put, List.setIfInBounds_toArray, List.set_cons_zero, List.set_cons_succ]
    refine take_at (i := 1) 65 ?_ rfl rfl (by kernel_rfl) (by kernel_rfl) (by kernel_rfl) (fun _ _ _ h => h) (.inl ⟨rfl, ?_⟩) hHeld ?_
    rotate_left 1
    · intro w hSw; go_simp; try with_reducible rfl
    simp only [Act.put, List.setIfInBounds_toArray, List.set_cons_zero, List.set_cons_succ]
    refine take_at (i := 2) 66 (.agg #[.slice ar rl.length cr, .int .i64 lost]) rfl rfl (by kernel_rfl) (by kernel_rfl) (by kernel_rfl) (fun _ _ _ h => h) (yields_ld (.tmp 65) 29 (.pointer (some ⟨q, 0, none⟩)) _ LQ.out rfl rfl rfl) hHeld ?_
    simp only [Act.put, List.setIfInBounds_toArray, List.set_cons_zero, List.set_cons_succ]
    refine take_at (i := 3) 67 ?_ rfl rfl (by kernel_rfl) (by kernel_rfl) (by kernel_rfl) (fun _ _ _ h => h) (.inl ⟨rfl, ?_⟩) hHeld ?_
    rotate_left 1
    · intro w hSw; go_simp; try with_reducible rfl
    simp only [Act.put, List.setIfInBounds_toArray, List.set_cons_zero, List.set_cons_succ]
    refine take_at (i := 4) 68 (.int .i64 k) rfl rfl (by kernel_rfl) (by kernel_rfl) (by kernel_rfl) (fun _ _ _ h => h) (yields_ld (.tmp 67) 3 (.pointer (some ⟨z, 1, none⟩)) _ Lk.out rfl rfl rfl) hHeld ?_
    simp only [Act.put, List.setIfInBounds_toArray, List.set_cons_zero, List.set_cons_succ]
    have HC := Lib.hid (HCR.out (Or1 (NOwn p fv' fl') q) W4.drew D2.out.own_lt D2.out.rows)
    refine wpAnyH_ready (rs := [5, 10, 11]) (by kernel_rfl) (by simp) (br_call (i := 5) 69 20 #[.agg #[.slice ar rl.length cr, .int .i64 lost], .int .i64 k] rfl rfl rfl (by go_simp) (HC.out.mono ?_) (br_alloc (i := 10) 11 29 _ _ rfl rfl rfl rfl (alloc29 W4.drew) (STP.out _ (BV.out.trans ((vstep W4.drew _).mono BV.out.size))) (fun _ => ?_) (br_alloc (i := 11) 12 32 _ _ rfl rfl rfl rfl (alloc32 W4.drew) (STP.out _ (BV.out.trans ((vstep W4.drew _).mono BV.out.size))) (fun _ => ?_) AllReadyH.nil)))
    · rintro e w5 ⟨rv', rfl, hr5, b5⟩
      obtain ⟨a5, c5, hrv⟩ := hr5.shape
      subst hrv
      have BV := Lib.hid (BV.out.trans (b5.mono BV.out.size))
      have HR := Lib.hid hr5
      have HS := Lib.hid (STP.out w5 BV.out)
      clear hr5 b5
      refine ⟨_, rfl, HS.out, fun _ => ?_⟩
      simp only [Act.put, List.setIfInBounds_toArray, List.set_cons_zero, List.set_cons_succ]
      refine take_at (i := 6) 63 ?_ rfl rfl (by kernel_rfl) (by kernel_rfl) (by kernel_rfl) (fun _ _ _ h => h) (.inl ⟨rfl, ?_⟩) HS.out ?_
      rotate_left 1
      · intro w hSw; go_simp; try with_reducible rfl
      simp only [Act.put, List.setIfInBounds_toArray, List.set_cons_zero, List.set_cons_succ]
      refine take_at (i := 7) 70 ?_ rfl rfl (by kernel_rfl) (by kernel_rfl) (by kernel_rfl) (fun _ _ _ h => h) (.inl ⟨rfl, ?_⟩) HS.out ?_
      rotate_left 1
      · intro w hSw; go_simp; try with_reducible rfl
      simp only [Act.put, List.setIfInBounds_toArray, List.set_cons_zero, List.set_cons_succ]
      refine take_at (i := 8) 71 ?_ rfl rfl (by kernel_rfl) (by kernel_rfl) (by kernel_rfl) (fun _ _ _ h => h) (.inl ⟨rfl, ?_⟩) HS.out ?_
      rotate_left 1
      · intro w hSw; go_simp; try with_reducible rfl
      simp only [Act.put, List.setIfInBounds_toArray, List.set_cons_zero, List.set_cons_succ]
      refine take_at (i := 9) 72 ?_ rfl rfl (by kernel_rfl) (by kernel_rfl) (by kernel_rfl) (fun _ _ _ h => h) (.inl ⟨rfl, ?_⟩) HS.out ?_
      rotate_left 1
      · intro w hSw; go_simp; try with_reducible rfl
      simp only [Act.put, List.setIfInBounds_toArray, List.set_cons_zero, List.set_cons_succ]
      refine wpAnyH_ready (rs := [10, 11]) (by kernel_rfl) (by simp) (br_alloc (i := 10) 11 29 _ _ rfl rfl rfl rfl (alloc29 w5) (STP.out _ (BV.out.trans ((vstep w5 _).mono BV.out.size))) (fun _ => ?_) (br_alloc (i := 11) 12 32 _ _ rfl rfl rfl rfl (alloc32 w5) (STP.out _ (BV.out.trans ((vstep w5 _).mono BV.out.size))) (fun _ => ?_) AllReadyH.nil))
      · obtain ⟨v10, e6, B6, R6, s6⟩ := boxed w5 #[.slice none 0 0, .int .i64 0] 29
        rw [e6]
        obtain ⟨b7, hb7⟩ : ∃ b, w5.heap.size = b := ⟨_, rfl⟩
        rw [hb7] at R6 ⊢
        have L7 := Lib.hid (show W4.drew.heap.size ≤ b7 by rw [← hb7]; exact BV.out.size)
        have HR := Lib.hid (HR.out.more B6 (show w5.heap.size ≤ b7 by rw [hb7]; exact Nat.le_refl _))
        have R7 := Lib.hid R6
        have BV := Lib.hid (BV.out.trans (B6.mono BV.out.size))
        clear R6 B6 s6 e6 hb7
        simp only [Act.put, List.setIfInBounds_toArray, List.set_cons_zero, List.set_cons_succ]
        refine wpAnyH_ready (rs := [11]) (by kernel_rfl) (by simp) (br_alloc (i := 11) 12 32 _ _ rfl rfl rfl rfl (alloc32 v10) (STP.out _ (BV.out.trans ((vstep v10 _).mono BV.out.size))) (fun _ => ?_) AllReadyH.nil)
        obtain ⟨v11, e6, B6, R6, s6⟩ := boxed v10 #[.int .i64 0, .slice none 0 0, .bool false] 32
        rw [e6]
        obtain ⟨b8, hb7⟩ : ∃ b, v10.heap.size = b := ⟨_, rfl⟩
        rw [hb7] at R6 ⊢
        have L8 := Lib.hid (show W4.drew.heap.size ≤ b8 by rw [← hb7]; exact BV.out.size)
        have NE := Lib.hid (show b7 ≠ b8 by have := lt_of_block R7.out; omega)
        have R7 := Lib.hid ((B6.block _ (lt_of_block R7.out)).trans R7.out)
        have HR := Lib.hid (HR.out.more B6 (show v10.heap.size ≤ b8 by rw [hb7]; exact Nat.le_refl _))
        have R8 := Lib.hid R6
        have BV := Lib.hid (BV.out.trans (B6.mono BV.out.size))
        clear R6 B6 s6 e6 hb7
        simp only [Act.put, List.setIfInBounds_toArray, List.set_cons_zero, List.set_cons_succ]
        obtain ⟨V1, V2, st1, st2, bv1, bv2, r7, r8, hrr⟩ := take_fin lost d1 a2 b1.length c2 h1 BV.out R7.out R8.out L7.out L8.out NE.out (HR.out)
        have ST1 := Lib.hid st1
        have ST2 := Lib.hid st2
        have HS1 := Lib.hid (STP.out V1 bv1)
        have HS2 := Lib.hid (STP.out V2 bv2)
        have FIN := Lib.hid (show Below W4.heap.size W4 V2 ∧ b7 ≠ q ∧ V2.heap[b7]? = some (.cells #[.slice a5 rl'.length c5, .int .i64 lost] 29 (0, 0)) ∧ V2.heap[b8]? = some (.cells #[.int .i64 d1, .slice a2 b1.length c2, .bool h1] 32 (0, 0)) ∧ b8 ≠ q ∧ RowsN (Or1 (NOwn p fv' fl') q) V2 (.slice a5 rl'.length c5) rl' from ⟨DB.out.trans (bv2.mono DB.out.size), by have := L7.out; have := lt_of_block H0.out.1; omega, r7, r8, by have := L8.out; have := lt_of_block H0.out.1; omega, hrr⟩)
        clear st1 st2 bv1 bv2 r7 r8 hrr
        refine wpAnyH_ready (rs := [12]) (by kernel_rfl) (by simp) (br_store (i := 12) 29 (.tmp 11) (.tmp 70) (.pointer (some ⟨b7, 0, none⟩)) (.agg #[.slice a5 rl'.length c5, .int .i64 lost]) V1 rfl rfl rfl rfl rfl rfl ST1.out HS1.out (fun _ => ?_) AllReadyH.nil)
        simp only [Act.put]
        refine wpAnyH_ready (rs := [13]) (by kernel_rfl) (by simp) (br_store (i := 13) 32 (.tmp 12) (.tmp 71) (.pointer (some ⟨b8, 0, none⟩)) (.agg #[.int .i64 d1, .slice a2 b1.length c2, .bool h1]) V2 rfl rfl rfl rfl rfl rfl ST2.out HS2.out (fun _ => ?_) AllReadyH.nil)
        simp only [Act.put]
        refine take_at (i := 14) 13 ?_ rfl rfl (by kernel_rfl) (by kernel_rfl) (by kernel_rfl) (fun _ _ _ h => h) (.inl ⟨rfl, ?_⟩) HS2.out ?_
        rotate_left 1
        · intro w hSw; go_simp; try with_reducible rfl
        simp only [Act.put, List.setIfInBounds_toArray, List.set_cons_zero, List.set_cons_succ]
        refine wpAnyH_done (by kernel_rfl) ?_ _
        go_wp2_with fail
        go_meet
        exact ⟨b7, b8, a5, c5, rfl, rfl, rfl, FIN.out⟩
      · obtain ⟨v11, e6, B6, R6, s6⟩ := boxed w5 #[.int .i64 0, .slice none 0 0, .bool false] 32
        rw [e6]
        obtain ⟨b8, hb7⟩ : ∃ b, w5.heap.size = b := ⟨_, rfl⟩
        rw [hb7] at R6 ⊢
        have L8 := Lib.hid (show W4.drew.heap.size ≤ b8 by rw [← hb7]; exact BV.out.size)
        have HR := Lib.hid (HR.out.more B6 (show w5.heap.size ≤ b8 by rw [hb7]; exact Nat.le_refl _))
        have R8 := Lib.hid R6
        have BV := Lib.hid (BV.out.trans (B6.mono BV.out.size))
        clear R6 B6 s6 e6 hb7
        simp only [Act.put, List.setIfInBounds_toArray, List.set_cons_zero, List.set_cons_succ]
        refine wpAnyH_ready (rs := [10]) (by kernel_rfl) (by simp) (br_alloc (i := 10) 11 29 _ _ rfl rfl rfl rfl (alloc29 v11) (STP.out _ (BV.out.trans ((vstep v11 _).mono BV.out.size))) (fun _ => ?_) AllReadyH.nil)
        obtain ⟨v10, e6, B6, R6, s6⟩ := boxed v11 #[.slice none 0 0, .int .i64 0] 29
        rw [e6]
        obtain ⟨b7, hb7⟩ : ∃ b, v11.heap.size = b := ⟨_, rfl⟩
        rw [hb7] at R6 ⊢
        have L7 := Lib.hid (show W4.drew.heap.size ≤ b7 by rw [← hb7]; exact BV.out.size)
        have NE := Lib.hid (show b7 ≠ b8 by have := lt_of_block R8.out; omega)
        have R8 := Lib.hid ((B6.block _ (lt_of_block R8.out)).trans R8.out)
        have HR := Lib.hid (HR.out.more B6 (show v11.heap.size ≤ b7 by rw [hb7]; exact Nat.le_refl _))
        have R7 := Lib.hid R6
        have BV := Lib.hid (BV.out.trans (B6.mono BV.out.size))
        clear R6 B6 s6 e6 hb7
        simp only [Act.put, List.setIfInBounds_toArray, List.set_cons_zero, List.set_cons_succ]
        obtain ⟨V1, V2, st1, st2, bv1, bv2, r7, r8, hrr⟩ := take_fin lost d1 a2 b1.length c2 h1 BV.out R7.out R8.out L7.out L8.out NE.out (HR.out.turn)
        have ST1 := Lib.hid st1
        have ST2 := Lib.hid st2
        have HS1 := Lib.hid (STP.out V1 bv1)
        have HS2 := Lib.hid (STP.out V2 bv2)
        have FIN := Lib.hid (show Below W4.heap.size W4 V2 ∧ b7 ≠ q ∧ V2.heap[b7]? = some (.cells #[.slice a5 rl'.length c5, .int .i64 lost] 29 (0, 0)) ∧ V2.heap[b8]? = some (.cells #[.int .i64 d1, .slice a2 b1.length c2, .bool h1] 32 (0, 0)) ∧ b8 ≠ q ∧ RowsN (Or1 (NOwn p fv' fl') q) V2 (.slice a5 rl'.length c5) rl' from ⟨DB.out.trans (bv2.mono DB.out.size), by have := L7.out; have := lt_of_block H0.out.1; omega, r7, r8, by have := L8.out; have := lt_of_block H0.out.1; omega, hrr⟩)
        clear st1 st2 bv1 bv2 r7 r8 hrr
        refine wpAnyH_ready (rs := [12]) (by kernel_rfl) (by simp) (br_store (i := 12) 29 (.tmp 11) (.tmp 70) (.pointer (some ⟨b7, 0, none⟩)) (.agg #[.slice a5 rl'.length c5, .int .i64 lost]) V1 rfl rfl rfl rfl rfl rfl ST1.out HS1.out (fun _ => ?_) AllReadyH.nil)
        simp only [Act.put]
        refine wpAnyH_ready (rs := [13]) (by kernel_rfl) (by simp) (br_store (i := 13) 32 (.tmp 12) (.tmp 71) (.pointer (some ⟨b8, 0, none⟩)) (.agg #[.int .i64 d1, .slice a2 b1.length c2, .bool h1]) V2 rfl rfl rfl rfl rfl rfl ST2.out HS2.out (fun _ => ?_) AllReadyH.nil)
        simp only [Act.put]
        refine take_at (i := 14) 13 ?_ rfl rfl (by kernel_rfl) (by kernel_rfl) (by kernel_rfl) (fun _ _ _ h => h) (.inl ⟨rfl, ?_⟩) HS2.out ?_
        rotate_left 1
        · intro w hSw; go_simp; try with_reducible rfl
        simp only [Act.put, List.setIfInBounds_toArray, List.set_cons_zero, List.set_cons_succ]
        refine wpAnyH_done (by kernel_rfl) ?_ _
        go_wp2_with fail
        go_meet
        exact ⟨b7, b8, a5, c5, rfl, rfl, rfl, FIN.out⟩
    · obtain ⟨v10, e6, B6, R6, s6⟩ := boxed W4.drew #[.slice none 0 0, .int .i64 0] 29
      rw [e6]
      obtain ⟨b7, hb7⟩ : ∃ b, W4.drew.heap.size = b := ⟨_, rfl⟩
      rw [hb7] at R6 ⊢
      have L7 := Lib.hid (show W4.drew.heap.size ≤ b7 by rw [← hb7]; exact BV.out.size)
      have HRB := Lib.hid (D2.out.rows.more B6 (show W4.drew.heap.size ≤ b7 by rw [hb7]; exact Nat.le_refl _))
      have R7 := Lib.hid R6
      have BV := Lib.hid (BV.out.trans (B6.mono BV.out.size))
      clear R6 B6 s6 e6 hb7
      simp only [Act.put, List.setIfInBounds_toArray, List.set_cons_zero, List.set_cons_succ]
      have HC := Lib.hid (HCR.out (Or1 (Or1 (NOwn p fv' fl') q) b7) v10 (fun j => fun hj => hj.elim (fun hj => Nat.lt_of_lt_of_le (D2.out.own_lt j hj) BV.out.size) (fun e => by rw [e]; exact lt_of_block R7.out)) HRB.out)
      refine wpAnyH_ready (rs := [5, 11]) (by kernel_rfl) (by simp) (br_call (i := 5) 69 20 #[.agg #[.slice ar rl.length cr, .int .i64 lost], .int .i64 k] rfl rfl rfl (by go_simp) (HC.out.mono ?_) (br_alloc (i := 11) 12 32 _ _ rfl rfl rfl rfl (alloc32 v10) (STP.out _ (BV.out.trans ((vstep v10 _).mono BV.out.size))) (fun _ => ?_) AllReadyH.nil))
      · rintro e w5 ⟨rv', rfl, hr5, b5⟩
        obtain ⟨a5, c5, hrv⟩ := hr5.shape
        subst hrv
        have R7 := Lib.hid ((b5.block _ (lt_of_block R7.out)).trans R7.out)
        have BV := Lib.hid (BV.out.trans (b5.mono BV.out.size))
        have HR := Lib.hid hr5
        have HS := Lib.hid (STP.out w5 BV.out)
        clear hr5 b5
        refine ⟨_, rfl, HS.out, fun _ => ?_⟩
        simp only [Act.put, List.setIfInBounds_toArray, List.set_cons_zero, List.set_cons_succ]
        refine take_at (i := 6) 63 ?_ rfl rfl (by kernel_rfl) (by kernel_rfl) (by kernel_rfl) (fun _ _ _ h => h) (.inl ⟨rfl, ?_⟩) HS.out ?_
        rotate_left 1
        · intro w hSw; go_simp; try with_reducible rfl
        simp only [Act.put, List.setIfInBounds_toArray, List.set_cons_zero, List.set_cons_succ]
        refine take_at (i := 7) 70 ?_ rfl rfl (by kernel_rfl) (by kernel_rfl) (by kernel_rfl) (fun _ _ _ h => h) (.inl ⟨rfl, ?_⟩) HS.out ?_
        rotate_left 1
        · intro w hSw; go_simp; try with_reducible rfl
        simp only [Act.put, List.setIfInBounds_toArray, List.set_cons_zero, List.set_cons_succ]
        refine take_at (i := 8) 71 ?_ rfl rfl (by kernel_rfl) (by kernel_rfl) (by kernel_rfl) (fun _ _ _ h => h) (.inl ⟨rfl, ?_⟩) HS.out ?_
        rotate_left 1
        · intro w hSw; go_simp; try with_reducible rfl
        simp only [Act.put, List.setIfInBounds_toArray, List.set_cons_zero, List.set_cons_succ]
        refine take_at (i := 9) 72 ?_ rfl rfl (by kernel_rfl) (by kernel_rfl) (by kernel_rfl) (fun _ _ _ h => h) (.inl ⟨rfl, ?_⟩) HS.out ?_
        rotate_left 1
        · intro w hSw; go_simp; try with_reducible rfl
        simp only [Act.put, List.setIfInBounds_toArray, List.set_cons_zero, List.set_cons_succ]
        refine wpAnyH_ready (rs := [11]) (by kernel_rfl) (by simp) (br_alloc (i := 11) 12 32 _ _ rfl rfl rfl rfl (alloc32 w5) (STP.out _ (BV.out.trans ((vstep w5 _).mono BV.out.size))) (fun _ => ?_) AllReadyH.nil)
        obtain ⟨v11, e6, B6, R6, s6⟩ := boxed w5 #[.int .i64 0, .slice none 0 0, .bool false] 32
        rw [e6]
        obtain ⟨b8, hb7⟩ : ∃ b, w5.heap.size = b := ⟨_, rfl⟩
        rw [hb7] at R6 ⊢
        have L8 := Lib.hid (show W4.drew.heap.size ≤ b8 by rw [← hb7]; exact BV.out.size)
        have NE := Lib.hid (show b7 ≠ b8 by have := lt_of_block R7.out; omega)
        have R7 := Lib.hid ((B6.block _ (lt_of_block R7.out)).trans R7.out)
        have HR := Lib.hid (HR.out.more B6 (show w5.heap.size ≤ b8 by rw [hb7]; exact Nat.le_refl _))
        have R8 := Lib.hid R6
        have BV := Lib.hid (BV.out.trans (B6.mono BV.out.size))
        clear R6 B6 s6 e6 hb7
        simp only [Act.put, List.setIfInBounds_toArray, List.set_cons_zero, List.set_cons_succ]
        obtain ⟨V1, V2, st1, st2, bv1, bv2, r7, r8, hrr⟩ := take_fin lost d1 a2 b1.length c2 h1 BV.out R7.out R8.out L7.out L8.out NE.out (HR.out)
        have ST1 := Lib.hid st1
        have ST2 := Lib.hid st2
        have HS1 := Lib.hid (STP.out V1 bv1)
        have HS2 := Lib.hid (STP.out V2 bv2)
        have FIN := Lib.hid (show Below W4.heap.size W4 V2 ∧ b7 ≠ q ∧ V2.heap[b7]? = some (.cells #[.slice a5 rl'.length c5, .int .i64 lost] 29 (0, 0)) ∧ V2.heap[b8]? = some (.cells #[.int .i64 d1, .slice a2 b1.length c2, .bool h1] 32 (0, 0)) ∧ b8 ≠ q ∧ RowsN (Or1 (NOwn p fv' fl') q) V2 (.slice a5 rl'.length c5) rl' from ⟨DB.out.trans (bv2.mono DB.out.size), by have := L7.out; have := lt_of_block H0.out.1; omega, r7, r8, by have := L8.out; have := lt_of_block H0.out.1; omega, hrr⟩)
        clear st1 st2 bv1 bv2 r7 r8 hrr
        refine wpAnyH_ready (rs := [12]) (by kernel_rfl) (by simp) (br_store (i := 12) 29 (.tmp 11) (.tmp 70) (.pointer (some ⟨b7, 0, none⟩)) (.agg #[.slice a5 rl'.length c5, .int .i64 lost]) V1 rfl rfl rfl rfl rfl rfl ST1.out HS1.out (fun _ => ?_) AllReadyH.nil)
        simp only [Act.put]
        refine wpAnyH_ready (rs := [13]) (by kernel_rfl) (by simp) (br_store (i := 13) 32 (.tmp 12) (.tmp 71) (.pointer (some ⟨b8, 0, none⟩)) (.agg #[.int .i64 d1, .slice a2 b1.length c2, .bool h1]) V2 rfl rfl rfl rfl rfl rfl ST2.out HS2.out (fun _ => ?_) AllReadyH.nil)
        simp only [Act.put]
        refine take_at (i := 14) 13 ?_ rfl rfl (by kernel_rfl) (by kernel_rfl) (by kernel_rfl) (fun _ _ _ h => h) (.inl ⟨rfl, ?_⟩) HS2.out ?_
        rotate_left 1
        · intro w hSw; go_simp; try with_reducible rfl
        simp only [Act.put, List.setIfInBounds_toArray, List.set_cons_zero, List.set_cons_succ]
        refine wpAnyH_done (by kernel_rfl) ?_ _
        go_wp2_with fail
        go_meet
        exact ⟨b7, b8, a5, c5, rfl, rfl, rfl, FIN.out⟩
      · obtain ⟨v11, e6, B6, R6, s6⟩ := boxed v10 #[.int .i64 0, .slice none 0 0, .bool false] 32
        rw [e6]
        obtain ⟨b8, hb7⟩ : ∃ b, v10.heap.size = b := ⟨_, rfl⟩
        rw [hb7] at R6 ⊢
        have L8 := Lib.hid (show W4.drew.heap.size ≤ b8 by rw [← hb7]; exact BV.out.size)
        have NE := Lib.hid (show b7 ≠ b8 by have := lt_of_block R7.out; omega)
        have R7 := Lib.hid ((B6.block _ (lt_of_block R7.out)).trans R7.out)
        have HRB := Lib.hid (HRB.out.more B6 (show v10.heap.size ≤ b8 by rw [hb7]; exact Nat.le_refl _))
        have R8 := Lib.hid R6
        have BV := Lib.hid (BV.out.trans (B6.mono BV.out.size))
        clear R6 B6 s6 e6 hb7
        simp only [Act.put, List.setIfInBounds_toArray, List.set_cons_zero, List.set_cons_succ]
        have HC := Lib.hid (HCR.out (Or1 (Or1 (Or1 (NOwn p fv' fl') q) b7) b8) v11 (fun j => fun hj => hj.elim (fun hj => hj.elim (fun hj => Nat.lt_of_lt_of_le (D2.out.own_lt j hj) BV.out.size) (fun e => by rw [e]; exact lt_of_block R7.out)) (fun e => by rw [e]; exact lt_of_block R8.out)) HRB.out)
        refine wpAnyH_ready (rs := [5]) (by kernel_rfl) (by simp) (br_call (i := 5) 69 20 #[.agg #[.slice ar rl.length cr, .int .i64 lost], .int .i64 k] rfl rfl rfl (by go_simp) (HC.out.mono ?_) AllReadyH.nil)
        rintro e w5 ⟨rv', rfl, hr5, b5⟩
        obtain ⟨a5, c5, hrv⟩ := hr5.shape
        subst hrv
        have R7 := Lib.hid ((b5.block _ (lt_of_block R7.out)).trans R7.out)
        have R8 := Lib.hid ((b5.block _ (lt_of_block R8.out)).trans R8.out)
        have BV := Lib.hid (BV.out.trans (b5.mono BV.out.size))
        have HR := Lib.hid hr5
        have HS := Lib.hid (STP.out w5 BV.out)
        clear hr5 b5
        refine ⟨_, rfl, HS.out, fun _ => ?_⟩
        simp only [Act.put, List.setIfInBounds_toArray, List.set_cons_zero, List.set_cons_succ]
        refine take_at (i := 6) 63 ?_ rfl rfl (by kernel_rfl) (by kernel_rfl) (by kernel_rfl) (fun _ _ _ h => h) (.inl ⟨rfl, ?_⟩) HS.out ?_
        rotate_left 1
        · intro w hSw; go_simp; try with_reducible rfl
        simp only [Act.put, List.setIfInBounds_toArray, List.set_cons_zero, List.set_cons_succ]
        refine take_at (i := 7) 70 ?_ rfl rfl (by kernel_rfl) (by kernel_rfl) (by kernel_rfl) (fun _ _ _ h => h) (.inl ⟨rfl, ?_⟩) HS.out ?_
        rotate_left 1
        · intro w hSw; go_simp; try with_reducible rfl
        simp only [Act.put, List.setIfInBounds_toArray, List.set_cons_zero, List.set_cons_succ]
        refine take_at (i := 8) 71 ?_ rfl rfl (by kernel_rfl) (by kernel_rfl) (by kernel_rfl) (fun _ _ _ h => h) (.inl ⟨rfl, ?_⟩) HS.out ?_
        rotate_left 1
        · intro w hSw; go_simp; try with_reducible rfl
        simp only [Act.put, List.setIfInBounds_toArray, List.set_cons_zero, List.set_cons_succ]
        refine take_at (i := 9) 72 ?_ rfl rfl (by kernel_rfl) (by kernel_rfl) (by kernel_rfl) (fun _ _ _ h => h) (.inl ⟨rfl, ?_⟩) HS.out ?_
        rotate_left 1
        · intro w hSw; go_simp; try with_reducible rfl
        simp only [Act.put, List.setIfInBounds_toArray, List.set_cons_zero, List.set_cons_succ]
        obtain ⟨V1, V2, st1, st2, bv1, bv2, r7, r8, hrr⟩ := take_fin lost d1 a2 b1.length c2 h1 BV.out R7.out R8.out L7.out L8.out NE.out (HR.out)
        have ST1 := Lib.hid st1
        have ST2 := Lib.hid st2
        have HS1 := Lib.hid (STP.out V1 bv1)
        have HS2 := Lib.hid (STP.out V2 bv2)
        have FIN := Lib.hid (show Below W4.heap.size W4 V2 ∧ b7 ≠ q ∧ V2.heap[b7]? = some (.cells #[.slice a5 rl'.length c5, .int .i64 lost] 29 (0, 0)) ∧ V2.heap[b8]? = some (.cells #[.int .i64 d1, .slice a2 b1.length c2, .bool h1] 32 (0, 0)) ∧ b8 ≠ q ∧ RowsN (Or1 (NOwn p fv' fl') q) V2 (.slice a5 rl'.length c5) rl' from ⟨DB.out.trans (bv2.mono DB.out.size), by have := L7.out; have := lt_of_block H0.out.1; omega, r7, r8, by have := L8.out; have := lt_of_block H0.out.1; omega, hrr⟩)
        clear st1 st2 bv1 bv2 r7 r8 hrr
        refine wpAnyH_ready (rs := [12]) (by kernel_rfl) (by simp) (br_store (i := 12) 29 (.tmp 11) (.tmp 70) (.pointer (some ⟨b7, 0, none⟩)) (.agg #[.slice a5 rl'.length c5, .int .i64 lost]) V1 rfl rfl rfl rfl rfl rfl ST1.out HS1.out (fun _ => ?_) AllReadyH.nil)
        simp only [Act.put]
        refine wpAnyH_ready (rs := [13]) (by kernel_rfl) (by simp) (br_store (i := 13) 32 (.tmp 12) (.tmp 71) (.pointer (some ⟨b8, 0, none⟩)) (.agg #[.int .i64 d1, .slice a2 b1.length c2, .bool h1]) V2 rfl rfl rfl rfl rfl rfl ST2.out HS2.out (fun _ => ?_) AllReadyH.nil)
        simp only [Act.put]
        refine take_at (i := 14) 13 ?_ rfl rfl (by kernel_rfl) (by kernel_rfl) (by kernel_rfl) (fun _ _ _ h => h) (.inl ⟨rfl, ?_⟩) HS2.out ?_
        rotate_left 1
        · intro w hSw; go_simp; try with_reducible rfl
        simp only [Act.put, List.setIfInBounds_toArray, List.set_cons_zero, List.set_cons_succ]
        refine wpAnyH_done (by kernel_rfl) ?_ _
        go_wp2_with fail
        go_meet
        exact ⟨b7, b8, a5, c5, rfl, rfl, rfl, FIN.out⟩
    · obtain ⟨v11, e6, B6, R6, s6⟩ := boxed W4.drew #[.int .i64 0, .slice none 0 0, .bool false] 32
      rw [e6]
      obtain ⟨b8, hb7⟩ : ∃ b, W4.drew.heap.size = b := ⟨_, rfl⟩
      rw [hb7] at R6 ⊢
      have L8 := Lib.hid (show W4.drew.heap.size ≤ b8 by rw [← hb7]; exact BV.out.size)
      have HRB := Lib.hid (D2.out.rows.more B6 (show W4.drew.heap.size ≤ b8 by rw [hb7]; exact Nat.le_refl _))
      have R8 := Lib.hid R6
      have BV := Lib.hid (BV.out.trans (B6.mono BV.out.size))
      clear R6 B6 s6 e6 hb7
      simp only [Act.put, List.setIfInBounds_toArray, List.set_cons_zero, List.set_cons_succ]
      have HC := Lib.hid (HCR.out (Or1 (Or1 (NOwn p fv' fl') q) b8) v11 (fun j => fun hj => hj.elim (fun hj => Nat.lt_of_lt_of_le (D2.out.own_lt j hj) BV.out.size) (fun e => by rw [e]; exact lt_of_block R8.out)) HRB.out)
      refine wpAnyH_ready (rs := [5, 10]) (by kernel_rfl) (by simp) (br_call (i := 5) 69 20 #[.agg #[.slice ar rl.length cr, .int .i64 lost], .int .i64 k] rfl rfl rfl (by go_simp) (HC.out.mono ?_) (br_alloc (i := 10) 11 29 _ _ rfl rfl rfl rfl (alloc29 v11) (STP.out _ (BV.out.trans ((vstep v11 _).mono BV.out.size))) (fun _ => ?_) AllReadyH.nil))
      · rintro e w5 ⟨rv', rfl, hr5, b5⟩
        obtain ⟨a5, c5, hrv⟩ := hr5.shape
        subst hrv
        have R8 := Lib.hid ((b5.block _ (lt_of_block R8.out)).trans R8.out)
        have BV := Lib.hid (BV.out.trans (b5.mono BV.out.size))
        have HR := Lib.hid hr5
        have HS := Lib.hid (STP.out w5 BV.out)
        clear hr5 b5
        refine ⟨_, rfl, HS.out, fun _ => ?_⟩
        simp only [Act.put, List.setIfInBounds_toArray, List.set_cons_zero, List.set_cons_succ]
        refine take_at (i := 6) 63 ?_ rfl rfl (by kernel_rfl) (by kernel_rfl) (by kernel_rfl) (fun _ _ _ h => h) (.inl ⟨rfl, ?_⟩) HS.out ?_
        rotate_left 1
        · intro w hSw; go_simp; try with_reducible rfl
        simp only [Act.put, List.setIfInBounds_toArray, List.set_cons_zero, List.set_cons_succ]
        refine take_at (i := 7) 70 ?_ rfl rfl (by kernel_rfl) (by kernel_rfl) (by kernel_rfl) (fun _ _ _ h => h) (.inl ⟨rfl, ?_⟩) HS.out ?_
        rotate_left 1
        · intro w hSw; go_simp; try with_reducible rfl
        simp only [Act.put, List.setIfInBounds_toArray, List.set_cons_zero, List.set_cons_succ]
        refine take_at (i := 8) 71 ?_ rfl rfl (by kernel_rfl) (by kernel_rfl) (by kernel_rfl) (fun _ _ _ h => h) (.inl ⟨rfl, ?_⟩) HS.out ?_
        rotate_left 1
        · intro w hSw; go_simp; try with_reducible rfl
        simp only [Act.put, List.setIfInBounds_toArray, List.set_cons_zero, List.set_cons_succ]
        refine take_at (i := 9) 72 ?_ rfl rfl (by kernel_rfl) (by kernel_rfl) (by kernel_rfl) (fun _ _ _ h => h) (.inl ⟨rfl, ?_⟩) HS.out ?_
        rotate_left 1
        · intro w hSw; go_simp; try with_reducible rfl
        simp only [Act.put, List.setIfInBounds_toArray, List.set_cons_zero, List.set_cons_succ]
        refine wpAnyH_ready (rs := [10]) (by kernel_rfl) (by simp) (br_alloc (i := 10) 11 29 _ _ rfl rfl rfl rfl (alloc29 w5) (STP.out _ (BV.out.trans ((vstep w5 _).mono BV.out.size))) (fun _ => ?_) AllReadyH.nil)
        obtain ⟨v10, e6, B6, R6, s6⟩ := boxed w5 #[.slice none 0 0, .int .i64 0] 29
        rw [e6]
        obtain ⟨b7, hb7⟩ : ∃ b, w5.heap.size = b := ⟨_, rfl⟩
        rw [hb7] at R6 ⊢
        have L7 := Lib.hid (show W4.drew.heap.size ≤ b7 by rw [← hb7]; exact BV.out.size)
        have NE := Lib.hid (show b7 ≠ b8 by have := lt_of_block R8.out; omega)
        have R8 := Lib.hid ((B6.block _ (lt_of_block R8.out)).trans R8.out)
        have HR := Lib.hid (HR.out.more B6 (show w5.heap.size ≤ b7 by rw [hb7]; exact Nat.le_refl _))
        have R7 := Lib.hid R6
        have BV := Lib.hid (BV.out.trans (B6.mono BV.out.size))
        clear R6 B6 s6 e6 hb7
        simp only [Act.put, List.setIfInBounds_toArray, List.set_cons_zero, List.set_cons_succ]
        obtain ⟨V1, V2, st1, st2, bv1, bv2, r7, r8, hrr⟩ := take_fin lost d1 a2 b1.length c2 h1 BV.out R7.out R8.out L7.out L8.out NE.out (HR.out.turn)
        have ST1 := Lib.hid st1
        have ST2 := Lib.hid st2
        have HS1 := Lib.hid (STP.out V1 bv1)
        have HS2 := Lib.hid (STP.out V2 bv2)
        have FIN := Lib.hid (show Below W4.heap.size W4 V2 ∧ b7 ≠ q ∧ V2.heap[b7]? = some (.cells #[.slice a5 rl'.length c5, .int .i64 lost] 29 (0, 0)) ∧ V2.heap[b8]? = some (.cells #[.int .i64 d1, .slice a2 b1.length c2, .bool h1] 32 (0, 0)) ∧ b8 ≠ q ∧ RowsN (Or1 (NOwn p fv' fl') q) V2 (.slice a5 rl'.length c5) rl' from ⟨DB.out.trans (bv2.mono DB.out.size), by have := L7.out; have := lt_of_block H0.out.1; omega, r7, r8, by have := L8.out; have := lt_of_block H0.out.1; omega, hrr⟩)
        clear st1 st2 bv1 bv2 r7 r8 hrr
        refine wpAnyH_ready (rs := [12]) (by kernel_rfl) (by simp) (br_store (i := 12) 29 (.tmp 11) (.tmp 70) (.pointer (some ⟨b7, 0, none⟩)) (.agg #[.slice a5 rl'.length c5, .int .i64 lost]) V1 rfl rfl rfl rfl rfl rfl ST1.out HS1.out (fun _ => ?_) AllReadyH.nil)
        simp only [Act.put]
        refine wpAnyH_ready (rs := [13]) (by kernel_rfl) (by simp) (br_store (i := 13) 32 (.tmp 12) (.tmp 71) (.pointer (some ⟨b8, 0, none⟩)) (.agg #[.int .i64 d1, .slice a2 b1.length c2, .bool h1]) V2 rfl rfl rfl rfl rfl rfl ST2.out HS2.out (fun _ => ?_) AllReadyH.nil)
        simp only [Act.put]
        refine take_at (i := 14) 13 ?_ rfl rfl (by kernel_rfl) (by kernel_rfl) (by kernel_rfl) (fun _ _ _ h => h) (.inl ⟨rfl, ?_⟩) HS2.out ?_
        rotate_left 1
        · intro w hSw; go_simp; try with_reducible rfl
        simp only [Act.put, List.setIfInBounds_toArray, List.set_cons_zero, List.set_cons_succ]
        refine wpAnyH_done (by kernel_rfl) ?_ _
        go_wp2_with fail
        go_meet
        exact ⟨b7, b8, a5, c5, rfl, rfl, rfl, FIN.out⟩
      · obtain ⟨v10, e6, B6, R6, s6⟩ := boxed v11 #[.slice none 0 0, .int .i64 0] 29
        rw [e6]
        obtain ⟨b7, hb7⟩ : ∃ b, v11.heap.size = b := ⟨_, rfl⟩
        rw [hb7] at R6 ⊢
        have L7 := Lib.hid (show W4.drew.heap.size ≤ b7 by rw [← hb7]; exact BV.out.size)
        have NE := Lib.hid (show b7 ≠ b8 by have := lt_of_block R8.out; omega)
        have R8 := Lib.hid ((B6.block _ (lt_of_block R8.out)).trans R8.out)
        have HRB := Lib.hid (HRB.out.more B6 (show v11.heap.size ≤ b7 by rw [hb7]; exact Nat.le_refl _))
        have R7 := Lib.hid R6
        have BV := Lib.hid (BV.out.trans (B6.mono BV.out.size))
        clear R6 B6 s6 e6 hb7
        simp only [Act.put, List.setIfInBounds_toArray, List.set_cons_zero, List.set_cons_succ]
        have HC := Lib.hid (HCR.out (Or1 (Or1 (Or1 (NOwn p fv' fl') q) b8) b7) v10 (fun j => fun hj => hj.elim (fun hj => hj.elim (fun hj => Nat.lt_of_lt_of_le (D2.out.own_lt j hj) BV.out.size) (fun e => by rw [e]; exact lt_of_block R8.out)) (fun e => by rw [e]; exact lt_of_block R7.out)) HRB.out)
        refine wpAnyH_ready (rs := [5]) (by kernel_rfl) (by simp) (br_call (i := 5) 69 20 #[.agg #[.slice ar rl.length cr, .int .i64 lost], .int .i64 k] rfl rfl rfl (by go_simp) (HC.out.mono ?_) AllReadyH.nil)
        rintro e w5 ⟨rv', rfl, hr5, b5⟩
        obtain ⟨a5, c5, hrv⟩ := hr5.shape
        subst hrv
        have R8 := Lib.hid ((b5.block _ (lt_of_block R8.out)).trans R8.out)
        have R7 := Lib.hid ((b5.block _ (lt_of_block R7.out)).trans R7.out)
        have BV := Lib.hid (BV.out.trans (b5.mono BV.out.size))
        have HR := Lib.hid hr5
        have HS := Lib.hid (STP.out w5 BV.out)
        clear hr5 b5
        refine ⟨_, rfl, HS.out, fun _ => ?_⟩
        simp only [Act.put, List.setIfInBounds_toArray, List.set_cons_zero, List.set_cons_succ]
        refine take_at (i := 6) 63 ?_ rfl rfl (by kernel_rfl) (by kernel_rfl) (by kernel_rfl) (fun _ _ _ h => h) (.inl ⟨rfl, ?_⟩) HS.out ?_
        rotate_left 1
        · intro w hSw; go_simp; try with_reducible rfl
        simp only [Act.put, List.setIfInBounds_toArray, List.set_cons_zero, List.set_cons_succ]
        refine take_at (i := 7) 70 ?_ rfl rfl (by kernel_rfl) (by kernel_rfl) (by kernel_rfl) (fun _ _ _ h => h) (.inl ⟨rfl, ?_⟩) HS.out ?_
        rotate_left 1
        · intro w hSw; go_simp; try with_reducible rfl
        simp only [Act.put, List.setIfInBounds_toArray, List.set_cons_zero, List.set_cons_succ]
        refine take_at (i := 8) 71 ?_ rfl rfl (by kernel_rfl) (by kernel_rfl) (by kernel_rfl) (fun _ _ _ h => h) (.inl ⟨rfl, ?_⟩) HS.out ?_
        rotate_left 1
        · intro w hSw; go_simp; try with_reducible rfl
        simp only [Act.put, List.setIfInBounds_toArray, List.set_cons_zero, List.set_cons_succ]
        refine take_at (i := 9) 72 ?_ rfl rfl (by kernel_rfl) (by kernel_rfl) (by kernel_rfl) (fun _ _ _ h => h) (.inl ⟨rfl, ?_⟩) HS.out ?_
        rotate_left 1
        · intro w hSw; go_simp; try with_reducible rfl
        simp only [Act.put, List.setIfInBounds_toArray, List.set_cons_zero, List.set_cons_succ]
        obtain ⟨V1, V2, st1, st2, bv1, bv2, r7, r8, hrr⟩ := take_fin lost d1 a2 b1.length c2 h1 BV.out R7.out R8.out L7.out L8.out NE.out (HR.out.turn)
        have ST1 := Lib.hid st1
        have ST2 := Lib.hid st2
        have HS1 := Lib.hid (STP.out V1 bv1)
        have HS2 := Lib.hid (STP.out V2 bv2)
        have FIN := Lib.hid (show Below W4.heap.size W4 V2 ∧ b7 ≠ q ∧ V2.heap[b7]? = some (.cells #[.slice a5 rl'.length c5, .int .i64 lost] 29 (0, 0)) ∧ V2.heap[b8]? = some (.cells #[.int .i64 d1, .slice a2 b1.length c2, .bool h1] 32 (0, 0)) ∧ b8 ≠ q ∧ RowsN (Or1 (NOwn p fv' fl') q) V2 (.slice a5 rl'.length c5) rl' from ⟨DB.out.trans (bv2.mono DB.out.size), by have := L7.out; have := lt_of_block H0.out.1; omega, r7, r8, by have := L8.out; have := lt_of_block H0.out.1; omega, hrr⟩)
        clear st1 st2 bv1 bv2 r7 r8 hrr
        refine wpAnyH_ready (rs := [12]) (by kernel_rfl) (by simp) (br_store (i := 12) 29 (.tmp 11) (.tmp 70) (.pointer (some ⟨b7, 0, none⟩)) (.agg #[.slice a5 rl'.length c5, .int .i64 lost]) V1 rfl rfl rfl rfl rfl rfl ST1.out HS1.out (fun _ => ?_) AllReadyH.nil)
        simp only [Act.put]
        refine wpAnyH_ready (rs := [13]) (by kernel_rfl) (by simp) (br_store (i := 13) 32 (.tmp 12) (.tmp 71) (.pointer (some ⟨b8, 0, none⟩)) (.agg #[.int .i64 d1, .slice a2 b1.length c2, .bool h1]) V2 rfl rfl rfl rfl rfl rfl ST2.out HS2.out (fun _ => ?_) AllReadyH.nil)
        simp only [Act.put]
        refine take_at (i := 14) 13 ?_ rfl rfl (by kernel_rfl) (by kernel_rfl) (by kernel_rfl) (fun _ _ _ h => h) (.inl ⟨rfl, ?_⟩) HS2.out ?_
        rotate_left 1
        · intro w hSw; go_simp; try with_reducible rfl
        simp only [Act.put, List.setIfInBounds_toArray, List.set_cons_zero, List.set_cons_succ]
        refine wpAnyH_done (by kernel_rfl) ?_ _
        go_wp2_with fail
        go_meet
        exact ⟨b7, b8, a5, c5, rfl, rfl, rfl, FIN.out⟩
  case rest =>
    obtain ⟨b7, b8, a7, c7, rfl, rfl, rfl, hb, hne, hrow, hrow8, hne8, hR⟩ := hcut
    have DW := D4.out.step hb
    have k0 := cell0 hrow
    have k1 := cell1 hrow
    have r0 := cell0 DW.box
    have r1 := cell1 DW.box
    have g0 := frozen0 DW.box
    have g1 := frozen1 DW.box
    have HP := Lib.hid (D4.out.put (lost' := lost) hb hR)
    have HL := Lib.hid (own_kept V4.out hb)
    have HL2 := Lib.hid (HCL.out _ _ DW.rows)
    have H9 := (hb.block _ (lt_of_block R9.out)).trans R9.out
    have K9 := Lib.hid ((set2_other (x := .slice a7 rl'.length c7) (y := .int .i64 lost) N9.out).trans H9)
    have K8 := Lib.hid ((set2_other (x := .slice a7 rl'.length c7) (y := .int .i64 lost) hne8).trans hrow8)
    have LA := Lib.hid (show Lies (set2 wc q (.slice a7 rl'.length c7) (.int .i64 lost)) (.slice a1 b1.length c1) b1 from own_lies (own_set2 HL.out (fun e => VQ.out q e rfl)))
    have LB := Lib.hid (show Lies (set2 wc q (.slice a7 rl'.length c7) (.int .i64 lost)) (.slice a2 b1.length c2) b1 from (HL2.out.move (N' := fun _ => True ∧ False) (by unfold set2; simp) (fun j hj hn => ⟨set2_other (fun e => hn (.inr e)), fun e => e.2⟩)).1)
    clear hb hne hrow hR DW hrow8 hne8 H9
    go_upto_region 13 with (fail)
    obtain ⟨w8, hw8⟩ : ∃ y, set2 wc q (.slice a7 rl'.length c7) (.int .i64 lost) = y := ⟨_, rfl⟩
    rw [hw8] at HP K9 K8 LA LB
    have hw8' : (wc.setCell ⟨q, 0, none⟩ (.slice a7 rl'.length c7)).setCell ⟨q, 1, none⟩ (.int .i64 lost) = w8 := hw8
    rw [hw8']
    have AR := Lib.hid (are_any w8 d1 _ _ h1 b1 LA.out LB.out)
    have u0 := cell_of_row _ b9 0 _ _ _ K9.out
    have u1 := cell_of_row _ b9 1 _ _ _ K9.out
    have u2 := cell_of_row _ b9 2 _ _ _ K9.out
    have x0 := cell_of_row _ b8 0 _ _ _ K8.out
    have x1 := cell_of_row _ b8 1 _ _ _ K8.out
    have x2 := cell_of_row _ b8 2 _ _ _ K8.out
    simp at u0 u1 u2 x0 x1 x2
    clear k0 k1 r0 r1 g0 g1 hw8 hw8'
    go_wp2_with fail
    refine AR.out.mono ?_
    rintro e w9 ⟨rfl, hb9'⟩
    have FIN := Lib.hid ((HP.out.step hb9').toDS HPU.out)
    clear hb9' u0 u1 u2 x0 x1 x2
    go_wp2
    go_returns
    exact ⟨rfl, _, _, _, FIN.out⟩
end Go.Proofs.Ytdocfoienbadhaa
