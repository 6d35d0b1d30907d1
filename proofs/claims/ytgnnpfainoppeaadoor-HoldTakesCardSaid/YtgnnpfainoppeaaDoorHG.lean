/- hold: Known, Len. -/
import Derived.Test.YtgnnpfainoppeaaDoorHF
set_option linter.unusedVariables false
set_option linter.unusedSimpArgs false
set_option maxRecDepth 100000
namespace Go.Proofs.YtgnnpfainoppeaaDoor
open Go.RowKit
open Ve

theorem HK.shape {w : World} {B b : Nat} {s : HS} (h : HK w B b s) (i : Nat) (hi : i < 64) : ∃ ao cap, s.S i = .slice ao (s.L i).length cap := by
  rcases (h.rows i hi).2 with ⟨e, hn⟩ | ⟨g, cap, cur, e, _⟩
  · exact ⟨none, 0, by rw [e, hn]⟩
  · exact ⟨_, cap, e⟩
theorem HK.ix {w : World} {B b : Nat} {s : HS} (h : HK w B b s) (i : Nat) (hi : i < 64) (W : World) : (Instr.index 64 (.agg (sv s.S).toArray) (.int .i64 (i : Int))).run Tryd.prog W = .ok (s.S i) W :=
  index_sv W _ (by rw [List.size_toArray, sv_len]) i hi _ (by rw [List.getElem?_toArray, sv_get _ i hi])
/-- What is known, of the first i replicas counted. -/
def KnI (bs : List Int) (L : Nat → List O) (i : Nat) (cur : List Int) : Prop := cur.length = 64 ∧ ∀ (j : Nat) x, bs[j]? = some x → cur[j]? = some (if j < i then x + ((L j).length : Int) else x)
theorem KnI.start {bs : List Int} {L : Nat → List O} (h : bs.length = 64) : KnI bs L 0 bs := ⟨h, fun j x hx => by rw [if_neg (Nat.not_lt_zero _), hx]⟩
theorem KnI.step {bs cur : List Int} {L : Nat → List O} {i : Nat} (h : KnI bs L i cur) (hi : i < 64) {x : Int} (hx : bs[i]? = some x) : KnI bs L (i + 1) (cur.set i (x + ((L i).length : Int))) := by
  refine ⟨by rw [List.length_set, h.1], fun j y hy => ?_⟩
  rw [List.getElem?_set]
  by_cases e : i = j
  · subst e
    rw [hx] at hy
    injection hy with hy
    subst hy
    rw [if_pos rfl, if_pos (by rw [h.1]; exact hi), if_pos (Nat.lt_succ_self _)]
  · rw [if_neg e, h.2 j y hy]
    by_cases e2 : j < i
    · rw [if_pos e2, if_pos (by omega)]
    · rw [if_neg e2, if_neg (by omega)]
theorem KnI.done {bs cur : List Int} {L : Nat → List O} (h : KnI bs L 64 cur) (hb : bs.length = 64) : cur = kn bs L := by
  refine list64_ext h.1 (kn_len _ _) fun i hi => ?_
  obtain ⟨x, hx⟩ : ∃ x, bs[i]? = some x := ⟨bs[i]'(by omega), List.getElem?_eq_getElem _⟩
  rw [h.2 i x hx, if_pos hi, kn_get bs L i hi x hx]
set_option maxHeartbeats 3200000 in
theorem known_any (w : World) (B b : Nat) (s : HS) (m : Nat) (h : HK w B b s) (g : Gd s.bs s.L m) (hm : m ≤ 1000) : Calls Tryd.prog 24 #[pv b] w fun e w' => e = .returned (vw (kn s.bs s.L)) ∧ Below w.heap.size w w' := by
  have AZ := Lib.hid (alloc_va z24 w)
  have RW := Lib.hid (heap_alloc_new w (.cells (va zs) 27))
  have SZ := Lib.hid (show (w.alloc (.cells (va zs) 27)).heap.size = w.heap.size + 1 by simp)
  have X := Lib.hid ((Below.refl w.heap.size w).alloc (Nat.le_refl _) (.cells (va zs) 27))
  have H0 := Lib.hid (h.step X.out)
  have HL := Lib.hid h.len
  have G := Lib.hid g
  have OS := Lib.hid h.shape
  have IXX := Lib.hid h.ix
  have BX := Lib.hid h.bx
  have HU := Lib.hid (show vw s.bs = .agg (va s.bs) from rfl)
  generalize hW : w.alloc (.cells (va zs) 27) = W0 at *
  have BN := Lib.hid (base_any W0 B b s H0.out)
  rw [HU.out] at BN
  clear hW h g
  go_enter Tryd.func24, Tryd.ntmps24
  go_wp2_with (first | refine wpList_alloc_arr rfl 27 rfl _ _ AZ.out ?_)
  refine BN.out.mono ?_
  rintro e w1 ⟨rfl, hb1⟩
  have R1 := Lib.hid ((hb1.block w.heap.size (by rw [SZ.out]; omega)).trans RW.out)
  have G1 := Lib.hid (show w.heap.size + 1 ≤ w1.heap.size from by have := hb1.size; rw [SZ.out] at this; exact this)
  have X1 := Lib.hid (X.out.trans (hb1.mono (by rw [SZ.out]; omega)))
  have H1 := Lib.hid (H0.out.step hb1)
  clear hb1 BN H0 RW X
  have A1 := Lib.hid (alloc_va z24 w1)
  have N1 := Lib.hid (heap_alloc_new w1 (.cells (va zs) 27))
  have O1 := Lib.hid (show (w1.alloc (.cells (va zs) 27)).heap[w.heap.size]? = some (.cells (va zs) 27 (0, 0)) from (((Below.refl w1.heap.size w1).alloc (Nat.le_refl _) (.cells (va zs) 27)).block _ (by have := G1.out; omega)).trans R1.out)
  have ST := Lib.hid (store_va v24 (w1.alloc (.cells (va zs) 27)) w1.heap.size (va zs) (by rw [va_size, zs_len]) s.bs HL.out N1.out)
  have R2 := Lib.hid (setRow_heap _ _ _ (va s.bs) _ _ N1.out)
  have O2 := Lib.hid (show ((w1.alloc (.cells (va zs) 27)).setRow w1.heap.size (va s.bs)).heap[w.heap.size]? = some (.cells (va zs) 27 (0, 0)) from (setRow_other _ _ _ _ (by have := G1.out; omega)).trans O1.out)
  have B2 := Lib.hid (below_setRow ((Below.refl w1.heap.size w1).alloc (Nat.le_refl _) (.cells (va zs) 27)) (g := w1.heap.size) (Nat.le_refl _) (va s.bs))
  have X2 := Lib.hid (X1.out.trans (B2.out.mono (by have := G1.out; omega)))
  have LS := Lib.hid (H1.out.step B2.out).loadS
  obtain ⟨k, hk⟩ : ∃ k, w1.heap.size = k := ⟨_, rfl⟩
  have KW := Lib.hid (show w.heap.size < k from by rw [← hk]; have := G1.out; omega)
  rw [hk] at R2 ST O2 X2 LS A1
  generalize hW2 : (w1.alloc (.cells (va zs) 27)).setRow k (va s.bs) = W2 at *
  clear B2 O1 N1 R1 X1 H1 G1 hW2
  generalize hT : (sv s.S).toArray = T at *
  clear hT
  go_wp2_with (first | refine wpList_alloc_arr rfl 27 rfl _ _ A1.out ?_ | refine wpList_store_arr rfl (.tmp 3) (.tmp 7) 27 rfl _ _ rfl rfl _ ST.out ?_ | refine wpList_load_arr rfl (.tmp 12) 64 rfl _ _ rfl LS.out ?_)
  clear ST LS A1 hk
  go_loopw [14] (fun iv wr => ∃ (i : Nat) (cur : List Int), iv = .int .i64 i ∧ i ≤ 64 ∧ Hid (KnI s.bs s.L i cur ∧ wr.heap[w.heap.size]? = some (.cells (va zs) 27 (0, 0)) ∧ wr.heap[k]? = some (.cells (va cur) 27 (0, 0)) ∧ Below w.heap.size w wr)) (fun iv _ => 64 - (intOf iv).toNat)
  case atStart => exact ⟨0, s.bs, rfl, Nat.zero_le _, Lib.hid ⟨KnI.start HL.out, O2.out, R2.out, X2.out⟩⟩
  case round =>
    obtain ⟨i, cur, rfl, hi, hI⟩ := hrel
    by_cases hlt : i < 64
    · obtain ⟨x, hx⟩ := BX.out i hlt
      obtain ⟨ao, cap, e⟩ := OS.out i hlt
      have IX := fun W => IXX.out i hlt W
      rw [e] at IX
      have hb := G.out.bb i x hx
      have hc := G.out.cnt i hlt
      have hcx : cur[i]? = some x := by have := hI.out.1.2 i x hx; rwa [if_neg (Nat.lt_irrefl _)] at this
      have g := cell_va hI.out.2.2.1 hcx
      have f := frozen_of_row _ _ i _ _ hI.out.2.2.1
      obtain ⟨z, hz⟩ : ∃ z, wrap64 (x + ((s.L i).length : Int)) = z := ⟨_, rfl⟩
      have hz2 : z = x + ((s.L i).length : Int) := by rw [← hz]; unfold wrap64; omega
      have HN := Lib.hid (show KnI s.bs s.L (i + 1) (cur.set i z) by rw [hz2]; exact hI.out.1.step hlt hx)
      have R3 := Lib.hid (show (wr.setCell ⟨k, i, none⟩ (.int .i64 z)).heap[k]? = some (.cells (va (cur.set i z)) 27 (0, 0)) from set_va hI.out.2.2.1 i z)
      have O3 := Lib.hid (show (wr.setCell ⟨k, i, none⟩ (.int .i64 z)).heap[w.heap.size]? = some (.cells (va zs) 27 (0, 0)) from (Below.heap_setCell _ _ _ _ (by show w.heap.size ≠ k; have := KW.out; omega)).trans hI.out.2.1)
      have B3 := Lib.hid (hI.out.2.2.2.setCell (p := ⟨k, i, none⟩) (by show w.heap.size ≤ k; have := KW.out; omega) (.int .i64 z))
      clear hx e hb hc hcx hz2 hI
      generalize (s.L i).length = n at *
      go_wp2
      go_roundw
      case rel => exact ⟨i + 1, cur.set i z, by go_num, by omega, Lib.hid ⟨HN.out, O3.out, R3.out, B3.out⟩⟩
      case measure => simp [intOf]; omega
    · have h64 : i = 64 := by omega
      subst h64
      have HE := Lib.hid (hI.out.1.done HL.out)
      have HC := Lib.hid hI.out.1.1
      have LD := Lib.hid (load_va v24 wr k cur HC.out hI.out.2.2.1)
      have SR := Lib.hid (store_va v24 wr w.heap.size (va zs) (by rw [va_size, zs_len]) cur HC.out hI.out.2.1)
      go_wp2_with (first | refine wpList_load_arr rfl (.tmp 3) 27 rfl _ _ rfl LD.out ?_ | refine wpList_store_arr rfl (.tmp 2) (.tmp 26) 27 rfl _ _ rfl rfl _ SR.out ?_ |
        refine bodyPost_ret (ret_va (b := w.heap.size) rfl v24 HC.out rfl (setRow_heap _ _ _ _ _ _ hI.out.2.1)) rfl ⟨by rw [HE.out], below_setRow hI.out.2.2.2 (Nat.le_refl _) _⟩)
/-- How many are held. -/
def cntL (L : Nat → List O) : Int := ((flat L).length : Int)
set_option maxHeartbeats 1600000 in
theorem len_any (w : World) (B b : Nat) (s : HS) (m : Nat) (h : HK w B b s) (g : Gd s.bs s.L m) (hm : m ≤ 1000) : Calls Tryd.prog 27 #[pv b] w fun e w' => e = .returned (.int .i64 (wrap64 (sumW (kn s.bs s.L) - sumW s.bs))) ∧ Below w.heap.size w w' := by
  have K := Lib.hid (known_any w B b s m h g hm)
  have H0 := Lib.hid h
  have BN := Lib.hid (fun W (h : HK W B b s) => base_any W B b s h)
  have S1 := Lib.hid (fun W => sum_any W (kn s.bs s.L) (kn_len _ _))
  have S2 := Lib.hid (fun W => sum_any W s.bs h.len)
  clear h g
  generalize vw (kn s.bs s.L) = Z at *
  generalize vw s.bs = Y at *
  generalize sumW (kn s.bs s.L) = p at *
  generalize sumW s.bs = q at *
  go_enter Tryd.func27, Tryd.ntmps27
  go_wp2_with fail
  refine K.out.mono ?_
  rintro e w1 ⟨rfl, h1⟩
  have H1 := Lib.hid h1
  clear h1
  go_wp2_with fail
  refine (S1.out _).mono ?_
  rintro e w2 ⟨rfl, h2⟩
  have H2 := Lib.hid (H1.out.trans (h2.mono H1.out.size))
  clear h2
  have HK2 := Lib.hid (H0.out.step H2.out)
  go_wp2_with fail
  refine (BN.out _ HK2.out).mono ?_
  rintro e w3 ⟨rfl, h3⟩
  have H3 := Lib.hid (H2.out.trans (h3.mono H2.out.size))
  clear h3
  go_wp2_with fail
  refine (S2.out _).mono ?_
  rintro e w4 ⟨rfl, h4⟩
  have H4 := Lib.hid (H3.out.trans (h4.mono H3.out.size))
  clear h4
  go_wp2
  go_returns
  exact ⟨rfl, H4.out⟩
end Go.Proofs.YtgnnpfainoppeaaDoor
