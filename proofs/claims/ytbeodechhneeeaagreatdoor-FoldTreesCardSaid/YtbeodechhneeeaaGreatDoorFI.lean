/- The chapter's example: plain, Text, awake; long. Made by genfi15.py. -/
import Derived.Test.YtbeodechhneeeaaGreatDoorFH
import Derived.Test.YtbeodechhneeeaaGreatDoorShelfJ
set_option linter.unusedVariables false
set_option linter.unusedSimpArgs false
set_option maxRecDepth 100000
namespace Go.Proofs.YtbeodechhneeeaaGreatDoor
open Go.RowKit Go.Shelf
open Tb (Rw setF getF aboveF Rise TabI TM LiesK LiesR ltS encS Sp)
open Vx (va vw zs zs_len va_len va_size cell_va set_va alloc_va load_va store_va z24 v24 index_va va_get)

theorem check_one {s : ByteArray} {c d : Int} (h : CheckIs s c) (g : CheckIs s d) : c = d := by
  rcases h with ⟨h1, rfl⟩ | ⟨h1, h2, h3, rfl⟩ | ⟨h1, h2, h3, rfl⟩ <;> rcases g with ⟨g1, rfl⟩ | ⟨g1, g2, g3, rfl⟩ | ⟨g1, g2, g3, rfl⟩ <;> first | rfl | omega | (rcases h1 with q | q <;> contradiction) | (rcases g1 with q | q <;> contradiction)
theorem ck_a : ckI ⟨#[97]⟩ = 0 := by
  refine check_one (ckI_is _) (.inr (.inr ⟨?_, ?_, by decide, rfl⟩))
  · rintro (h | h | h) <;> (have := congrArg ByteArray.data h; revert this; decide)
  · rintro ⟨j, _, hj, hb⟩
    have : j = 0 := by have : (⟨#[97]⟩ : ByteArray).size = 1 := rfl; omega
    subst this
    revert hb
    decide
def fx (n : Int) : O := ⟨n, 0, n, n, 0, 0, 0, ⟨#[97]⟩, false⟩
def fx3 : List O := [fx 1, fx 2, fx 4]
theorem fx_r1 : rO (fx 1) = true := by unfold rO rB; rw [show (fx 1).nm = ⟨#[97]⟩ from rfl, ck_a]; rfl
theorem fx_r2 : rO (fx 2) = true := by unfold rO rB; rw [show (fx 2).nm = ⟨#[97]⟩ from rfl, ck_a]; rfl
theorem fx_r4 : rO (fx 4) = true := by unfold rO rB; rw [show (fx 4).nm = ⟨#[97]⟩ from rfl, ck_a]; rfl
theorem fx_uniq : uniqF fx3 = fx3 := by
  show uqO (uqO (uqO [] (fx 1)) (fx 2)) (fx 4) = _
  have e1 : uqO [] (fx 1) = [fx 1] := if_pos ⟨fx_r1, rfl⟩
  have e2 : uqO [fx 1] (fx 2) = [fx 1, fx 2] := if_pos ⟨fx_r2, rfl⟩
  have e3 : uqO [fx 1, fx 2] (fx 4) = fx3 := if_pos ⟨fx_r4, rfl⟩
  rw [e1, e2, e3]
theorem fx_set : setO fx3 = fx3 := by
  unfold setO
  rw [fx_uniq]
  rfl
def v20 : List Int := 2 :: List.replicate 63 0
theorem fx_vec : vecO (setO fx3) = v20 := by
  rw [fx_set]
  rfl
theorem fx_time : timeO (setO fx3) = 4 := by rw [fx_set]; rfl
theorem fx_len : (playF [] (setO fx3)).length = 3 := by rw [fx_set]; rfl
theorem fx_honest : honestP fx3 = true := by
  unfold honestP
  rw [fx_set]
  rfl
theorem fx_ok : ∀ o ∈ fx3, OkO o := by
  intro o ho
  rcases List.mem_cons.1 ho with rfl | ho
  · constructor <;> (unfold Tb.I64; decide)
  · rcases List.mem_cons.1 ho with rfl | ho
    · constructor <;> (unfold Tb.I64; decide)
    · rcases List.mem_cons.1 ho with rfl | ho
      · constructor <;> (unfold Tb.I64; decide)
      · cases ho
theorem fx_sz : ∀ o ∈ fx3, o.nm.size ≤ 9223372036854775807 := by
  intro o ho
  rcases List.mem_cons.1 ho with rfl | ho
  · decide
  · rcases List.mem_cons.1 ho with rfl | ho
    · decide
    · rcases List.mem_cons.1 ho with rfl | ho
      · decide
      · cases ho
/-! ### long -/
open Classical in
noncomputable def longB (l : List O) : Bool := !decide (l.length ≤ 30 ∧ ∀ o ∈ l, o.nm.size ≤ 300)
theorem long_f {l : List O} (h : longB l = false) : l.length ≤ 30 ∧ ∀ o ∈ l, o.nm.size ≤ 300 := by
  unfold longB at h
  by_cases q : l.length ≤ 30 ∧ ∀ o ∈ l, o.nm.size ≤ 300
  · exact q
  · simp [q] at h
theorem long_t {l : List O} (h : ¬ (l.length ≤ 30 ∧ ∀ o ∈ l, o.nm.size ≤ 300)) : true = longB l := by unfold longB; simp [h]
theorem long_n {l : List O} (h : l.length ≤ 30 ∧ ∀ o ∈ l, o.nm.size ≤ 300) : false = longB l := by unfold longB; rw [decide_eq_true h]; rfl
set_option maxHeartbeats 3200000 in
theorem long_any (w : World) (v : Value) (l : List O) (h : OLies w v l) :
    Calls Tryz.prog 6 #[v] w fun e w' => e = .returned (.bool (longB l)) ∧ w = w' := by
  have H := Lib.hid h
  have HN := Lib.hid h.len
  obtain ⟨ao, cap, rfl⟩ := h.shape
  clear h
  go_enter Tryz.func6, Tryz.ntmps6
  go_wp2
  go_loopw [3] (fun iv wr => ∃ i : Nat, iv = .int .i64 i ∧ i ≤ l.length ∧ i ≤ 40 ∧ w = wr ∧ Hid (∀ o ∈ l.take i, o.nm.size ≤ 300)) (fun iv _ => 40 - (intOf iv).toNat)
  case atStart => exact ⟨0, rfl, Nat.zero_le _, Nat.zero_le _, (by first | trivial | rfl), Lib.hid (fun o ho => by cases ho)⟩
  case round =>
    obtain ⟨i, rfl, hi, hi4, rfl, K⟩ := hrel
    by_cases hlt : i < l.length
    · have hd : decide ((i : Int) < (l.length : Int)) = true := decide_eq_true (by omega)
      by_cases h40 : i < 40
      · have hd2 : decide ((i : Int) < 40) = true := decide_eq_true (by omega)
        have hi0 : (0 : Int) ≤ (i : Int) := by omega
        have hi1 : (i : Int) < (l.length : Int) := by omega
        have HL1 := Lib.hid (show i + 1 ≤ l.length from hlt)
        have HL4 := Lib.hid (show i + 1 ≤ 40 from h40)
        have HW9 := Lib.hid (wrap_nat h40 (show 40 ≤ 100000 by omega))
        have HMS := Lib.hid (meas_nat h40)
        obtain ⟨g, k, x, e7, hx, hg, hc⟩ := H.out.atK hlt
        subst e7
        have c4 : w.cell? ⟨g, k + i * 9 + 7, none⟩ = some (.string x.nm) := hc 7 _ rfl
        have TS := Lib.hid (show l.take (i + 1) = l.take i ++ [x] from by
          obtain ⟨q1, q2⟩ := List.getElem?_eq_some_iff.1 hx
          rw [List.take_succ_eq_append_getElem q1, q2])
        obtain ⟨sz, hsz⟩ : ∃ z : Nat, x.nm.size = z := ⟨_, rfl⟩
        have HZ := Lib.hid hsz
        have MX := Lib.hid (List.mem_of_getElem? hx)
        clear hx hc hlt h40
        by_cases hl : 300 < sz
        · have hdl : decide ((300 : Int) < (sz : Int)) = true := decide_eq_true (by omega)
          have FN := Lib.hid (long_t (l := l) (fun q => by have := q.2 x MX.out; rw [HZ.out] at this; omega))
          clear hl K
          go_wp2
          go_returns
          exact ⟨ret_b FN.out, rfl⟩
        · have hdl : decide ((300 : Int) < (sz : Int)) = false := decide_eq_false (by omega)
          have KF := Lib.hid (show ∀ o ∈ l.take (i + 1), o.nm.size ≤ 300 from by
            rw [TS.out]
            intro o ho
            rcases List.mem_append.1 ho with q | q
            · exact K.out o q
            · rw [List.mem_singleton.1 q, HZ.out]; omega)
          clear hl K
          go_wp2
          go_roundw
          case rel => exact ⟨i + 1, by first | (rw [HW9.out]; rfl) | go_num, HL1.out, HL4.out, (by first | trivial | rfl), KF⟩
          case measure => first | (rw [HW9.out]; exact HMS.out) | exact HMS.out
      · have hd2 : decide ((i : Int) < 40) = false := decide_eq_false (by omega)
        have hi0 : (0 : Int) ≤ (i : Int) := by omega
        have hi1 : (i : Int) < (l.length : Int) := by omega
        have hi4 : ¬ (i : Int) < 40 := by omega
        have hd3 : decide ((30 : Int) < (l.length : Int)) = true := decide_eq_true (by omega)
        have FN := Lib.hid (long_t (l := l) (fun q => by omega))
        clear hlt h40 K
        go_wp2
        go_returns
        exact ⟨ret_b FN.out, rfl⟩
    · have ei : i = l.length := by omega
      subst ei
      have hd : decide ((l.length : Int) < (l.length : Int)) = false := decide_eq_false (by omega)
      have FIN := Lib.hid K.out
      simp only [List.take_length] at FIN
      clear K
      by_cases h30 : 30 < l.length
      · have hd3 : decide ((30 : Int) < (l.length : Int)) = true := decide_eq_true (by omega)
        have FN := Lib.hid (long_t (l := l) (fun q => by omega))
        clear hlt h30
        go_wp2
        go_returns
        exact ⟨ret_b FN.out, rfl⟩
      · have hd3 : decide ((30 : Int) < (l.length : Int)) = false := decide_eq_false (by omega)
        have FN := Lib.hid (long_n (l := l) ⟨by omega, FIN.out⟩)
        clear hlt h30
        go_wp2
        go_returns
        exact ⟨ret_b FN.out, rfl⟩
/-! ### Text -/
def decS (n : Int) : ByteArray := ⟨(Lib.decDigits n.toNat).toArray⟩
set_option maxHeartbeats 400000 in
theorem digits_small (w : World) (n : Int) (h0 : 0 ≤ n) (h1 : n < 100) : Calls Tryz.prog 53 #[.int .i64 n] w fun e w' => e = .returned (.string (decS n)) ∧ Below w.heap.size w w' := by
  obtain ⟨i, rfl⟩ := Int.eq_ofNat_of_zero_le h0
  have hm : max (i : Int) 0 = i := by omega
  have C := Lib.hid (Tryz.strconv_Itoa_small i (by omega) w)
  go_enter Tryz.func53, Tryz.ntmps53
  go_wp2_with fail
  refine C.out.mono ?_
  rintro e w1 ⟨rfl, rfl⟩
  go_wp2
  go_returns
  exact ⟨rfl, Below.refl _ _⟩
def p02 : ByteArray := ⟨#[48, 58, 50]⟩
theorem p02_is : decS 0 ++ ⟨#[58]⟩ ++ decS 2 = p02 := by first | kernel_rfl | decide
def cs1 (l : List ByteArray) : List Value := l.map Value.string
theorem Tryz.u62 : Tryz.prog.underlying 92 = some (.slice 9) := by kernel_rfl
theorem Tryz.info9 : (Tryz.prog.info? 9).map (fun i => (i.zero, i.size, i.bytes)) = some (some (.string ⟨#[]⟩), 1, 16) := by kernel_rfl
theorem src_str (w : World) (p : ByteArray) : Src Tryz.prog 1 92 (.slice (some ⟨w.heap.size, 0, none⟩) 1 1) 1 (cs1 [p]) (w.alloc (.cells #[.string p] 9)) := by
  have hg := heap_alloc_new w (.cells #[.string p] 9)
  refine Src.ofSlice _ Tryz.u62 _ _ _ _ rfl ?_ (fun u hu => by rw [List.mem_singleton.1 hu]; rfl)
  intro j u hj
  rw [add_addr, Nat.zero_add, cell_of_row _ _ _ _ _ _ hg]
  match j, hj with
  | 0, hj => injection hj with hj; subst hj; rfl
  | j + 1, hj => simp [cs1] at hj
/-- The one text that Text has joined. -/
def TXI (rv : Value) (W : World) (i : Nat) : Prop := (i = 0 ∧ rv = .slice none 0 0) ∨ (1 ≤ i ∧ ∃ g c, rv = .slice (some ⟨g, 0, none⟩) 1 c ∧ 1 ≤ c ∧ g < W.heap.size ∧ W.cell? ⟨g, 0, none⟩ = some (.string p02))
set_option maxHeartbeats 3200000 in
theorem text_ex (w : World) : Calls Tryz.prog 27 #[vw v20] w fun e w' => e = .returned (.string p02) ∧ Below w.heap.size w w' := by
  obtain ⟨i0, hi45, hz0, hz1, hz2⟩ := info_parts Tryz.info9
  have hl : v20.length = 64 := rfl
  have X := Lib.hid (pl_vstep w (.cells (va v20) 52))
  have LD := Lib.hid (load_va v24 (w.alloc (.cells (va v20) 52)) w.heap.size v20 hl (heap_alloc_new w (.cells (va v20) 52)))
  have G := Lib.hid (va_get v20)
  have hsz : (va v20).size = 64 := by rw [va_size, hl]
  have HZ := Lib.hid (show (w.alloc (.cells (va v20) 52)).heap.size = w.heap.size + 1 by simp)
  generalize hW : w.alloc (.cells (va v20) 52) = W0 at *
  have HW := Lib.hid hW
  clear hW hl
  unfold vw
  generalize va v20 = A at *
  go_enter Tryz.func27, Tryz.ntmps27
  go_wp2_with (first | (rw [HW.out]; refine Ve.wpList_load_arr rfl (.tmp 1) 52 rfl _ _ rfl LD.out ?_))
  go_loopw [3, 7] (fun rv iv wr => ∃ i : Nat, iv = .int .i64 i ∧ i ≤ 64 ∧ Hid (TXI rv wr i ∧ Below W0.heap.size W0 wr)) (fun _ iv _ => 64 - (intOf iv).toNat)
  case atStart => exact ⟨0, rfl, Nat.zero_le _, Lib.hid ⟨.inl ⟨rfl, rfl⟩, Below.refl _ _⟩⟩
  case round =>
    obtain ⟨i, rfl, hi, K⟩ := hrel
    by_cases hlt : i < 64
    · have hd : decide ((i : Int) < 64) = true := decide_eq_true (by omega)
      have HW9 := Lib.hid (wrap_nat hlt (show 64 ≤ 100000 by omega))
      have HMS := Lib.hid (meas_nat hlt)
      have HL1 := Lib.hid (show i + 1 ≤ 64 from hlt)
      rcases K.out.1 with ⟨rfl, rfl⟩ | ⟨h1, g, c, rfl, hc1, hg, hc⟩
      · have z1 : (decS 0).size = 1 := by first | kernel_rfl | decide
        have z2 : (decS 2).size = 1 := by first | kernel_rfl | decide
        have E2 := Lib.hid p02_is
        have D1 := Lib.hid (digits_small wr 0 (by omega) (by omega))
        have D2 := Lib.hid (fun W => digits_small W 2 (by omega) (by omega))
        obtain ⟨s0, hs0⟩ : ∃ z, decS 0 = z := ⟨_, rfl⟩
        obtain ⟨s2, hs2⟩ : ∃ z, decS 2 = z := ⟨_, rfl⟩
        rw [hs0] at z1 E2 D1
        rw [hs2] at z2 E2 D2
        clear hs0 hs2
        have IX : ∀ W, (Instr.index 52 (.agg A) (.int .i64 0)).run Tryz.prog W = .ok (.int .i64 2) W := fun W => index_va W A hsz 0 hlt 2 (G.out 0 2 rfl)
        have KB := Lib.hid K.out.2
        clear K
        go_wp2_with fail
        refine D1.out.mono ?_
        rintro e w1 ⟨rfl, hb1⟩
        have K1 := Lib.hid (KB.out.trans (hb1.mono KB.out.size))
        clear hb1 KB D1
        go_wp2_with fail
        refine (D2.out w1).mono ?_
        rintro e w2 ⟨rfl, hb2⟩
        have K2 := Lib.hid (K1.out.trans (hb2.mono K1.out.size))
        clear hb2 K1 D2
        have SR := Lib.hid (fun p => src_str w2 p)
        have BAl := Lib.hid (fun p => K2.out.trans ((pl_vstep w2 (.cells #[.string p] 9)).mono K2.out.size))
        have OAl := Lib.hid (fun p => World.ownsRow_nil (w2.alloc (.cells #[.string p] 9)) W0.heap.size 9 1)
        have hsa := Lib.hid (fun p => (BAl.out p).size)
        go_wp2_with (at_builtin; refine Tb.wpList_append_src_own rfl (.tmp 13) (.tmp 20) 92 92 rfl W0.heap.size 9 i0 (.string ⟨#[]⟩) 1 16 Tryz.u62 hi45 hz0 hz1 hz2 rfl (by decide) (.slice none 0 0) 0 [] rfl (OAl.out _) _ 1 (cs1 [_]) rfl (SR.out _) (by unfold maxLen; omega) (by omega) (hsa.out _) ?_; intro v8 w8 hown hgr hsp; have HB8 := Lib.hid ((BAl.out _).grown hgr (hsa.out _) (fun k e => by cases e)); have HO8 := Lib.hid hown; clear hown hgr hsp)
        have KF := Lib.hid (show TXI v8 w8 1 ∧ Below W0.heap.size W0 w8 from ⟨.inr ⟨Nat.le_refl _, by
          rcases HO8.out.2 with ⟨_, q⟩ | ⟨g, cap, cur, rfl, hB, hg, hcap, hmax, hz, htk⟩
          · cases q
          · refine ⟨g, cap, rfl, hcap, lt_of_block hg, ?_⟩
            have := HO8.out.cells (show (Value.slice (some ⟨g, 0, none⟩) 1 cap).ownBlock = some g from rfl) 0 (.string p02) (by rw [← E2.out]; rfl)
            exact this⟩, HB8.out⟩)
        go_roundw
        case rel => exact ⟨1, by first | (rw [HW9.out]; rfl) | go_num, HL1.out, KF⟩
        case measure => first | (rw [HW9.out]; exact HMS.out) | exact HMS.out
      · have hx : v20[i]? = some 0 := by
          obtain ⟨j, rfl⟩ : ∃ j, i = j + 1 := ⟨i - 1, by omega⟩
          show (List.replicate 63 (0 : Int))[j]? = some 0
          rw [List.getElem?_replicate, if_pos (by omega)]
        have IX := fun W => index_va W A hsz i hlt 0 (G.out i 0 hx)
        have KF := Lib.hid (show TXI (.slice (some ⟨g, 0, none⟩) 1 c) wr (i + 1) ∧ Below W0.heap.size W0 wr from ⟨.inr ⟨by omega, g, c, rfl, hc1, hg, hc⟩, K.out.2⟩)
        clear K hx hc hg
        go_wp2
        go_roundw
        case rel => exact ⟨i + 1, by first | (rw [HW9.out]; rfl) | go_num, HL1.out, KF⟩
        case measure => first | (rw [HW9.out]; exact HMS.out) | exact HMS.out
    · have hi64 : i = 64 := by omega
      subst hi64
      rcases K.out.1 with ⟨q, rfl⟩ | ⟨h1, g, c, rfl, hc1, hg, hc⟩
      · omega
      · have JN := Lib.hid (Tryz.strings_Join g 0 c [p02] ⟨#[32]⟩ wr (fun j x hj => by
          match j, hj with
          | 0, hj => injection hj with hj; subst hj; exact hc
          | j + 1, hj => simp at hj) hg (by decide) hc1 (by decide))
        have HE := Lib.hid (show (⟨(Lib.join ([p02].map (·.data.toList)) (⟨#[32]⟩ : ByteArray).data.toList).toArray⟩ : ByteArray) = p02 by rfl)
        rw [HE.out] at JN
        have B0 := Lib.hid (X.out.trans (K.out.2.mono X.out.size))
        clear K hc hg
        go_wp2_with fail
        refine JN.out.mono ?_
        rintro e w2 ⟨rfl, hb2⟩
        have B2 := Lib.hid (B0.out.trans (hb2.mono B0.out.size))
        clear hb2
        go_wp2
        go_returns
        exact ⟨rfl, B2.out⟩
end Go.Proofs.YtbeodechhneeeaaGreatDoor

