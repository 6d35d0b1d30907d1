/- Made of both; the reference's Above. -/
import Derived.Test.YthbmbpnpigpgpaaTO
set_option linter.unusedVariables false
set_option maxRecDepth 100000
namespace Go.Proofs.Ythbmbpnpigpgpaa
open Go.RowKit Go.WideMaps Go.Maps

def madeF (l : List Rw) : List Rw := l.foldl setF []
theorem madeF_snoc {l : List Rw} {i : Nat} {x : Rw} (h : l[i]? = some x) : madeF (l.take (i + 1)) = setF (madeF (l.take i)) x := by
  obtain ⟨hl, he⟩ := List.getElem?_eq_some_iff.1 h
  unfold madeF
  rw [List.take_succ_eq_append_getElem hl, List.foldl_append, he]
  rfl
theorem setF_len (l : List Rw) (x : Rw) : (setF l x).length ≤ l.length + 1 := by
  rw [(set_perm x).length_eq, List.length_cons]
  have := List.length_filter_le (fun y => !sameN y x) l
  omega
theorem fold_len : ∀ (l m : List Rw), (l.foldl setF m).length ≤ m.length + l.length
  | [], m => by simp
  | x :: l, m => by
    have := fold_len l (setF m x)
    have := setF_len m x
    rw [List.foldl_cons, List.length_cons]
    omega
theorem madeF_len (l : List Rw) : (madeF l).length ≤ l.length := by have := fold_len l []; simpa [madeF] using this
theorem fold_rise : ∀ (l m : List Rw), Rise m → Rise (l.foldl setF m)
  | [], m, h => h
  | x :: l, m, h => fold_rise l _ (rise_set h x)
theorem madeF_rise (l : List Rw) : Rise (madeF l) := fold_rise l [] List.Pairwise.nil
set_option maxHeartbeats 3200000 in
theorem rmade_any (w : World) (v : Value) (l : List Rw) (h : LiesR w v l) (hl : l.length ≤ 1000) :
    Calls Try.prog 7 #[v] w fun e w' => ∃ r, e = .returned r ∧ LiesR w' r (madeF l) ∧ Below w.heap.size w w' := by
  have L := Lib.hid h
  obtain ⟨ao, cap, rfl⟩ := h.shape
  clear h
  go_enter Try.func7, Try.ntmps7
  go_wp2_with fail
  go_loopw [3, 4] (fun ov kv wr => ∃ i : Nat, kv = .int .i64 i ∧ i ≤ l.length ∧ Hid (LiesR wr ov (madeF (l.take i)) ∧ Below w.heap.size w wr)) (fun _ kv _ => l.length - (intOf kv).toNat)
  case atStart => exact ⟨0, rfl, Nat.zero_le _, Lib.hid ⟨LiesK.nil _, Below.refl _ _⟩⟩
  case round =>
    obtain ⟨i, rfl, hi, hK⟩ := hrel
    obtain ⟨oa, oc, rfl⟩ := hK.out.1.shape
    have KK := Lib.hid hK.out
    clear hK
    by_cases hlt : i < l.length
    · obtain ⟨g, o, x, rfl, hx, hg, a0, a1, a2, a3, a4, a5⟩ := (L.out.step KK.out.2).row hlt
      have SN := Lib.hid (madeF_snoc hx)
      have CA := Lib.hid (fun W (hb : Below wr.heap.size wr W) => rset_any W _ (madeF (l.take i)) x (KK.out.1.step hb) (by have := madeF_len (l.take i); rw [List.length_take] at this; omega) (madeF_rise _))
      generalize madeF (l.take i) = m at *
      clear hx hg
      go_upto_region 5 with (fail)
      go_still_tail 11, (by kernel_rfl)
      change wpList _ _ _ _ _ wr.drew
      have BD := Lib.hid (show Below wr.heap.size wr wr.drew from (Below.refl _ _).drew)
      have CB := Lib.hid (CA.out _ BD.out)
      have BW := Lib.hid (KK.out.2.trans (BD.out.mono KK.out.2.size))
      generalize wr.drew = w2 at *
      clear a0 a1 a2 a3 a4 a5 CA
      go_wp2_with (go_at_call 29; refine CB.out.mono ?_; rintro e w3 ⟨r, rfl, ho, hb⟩; have FIN := Lib.hid (show LiesR w3 r (madeF (l.take (i + 1))) ∧ Below w.heap.size w w3 from ⟨by rw [SN.out]; exact own_liesK enc6_len ho, BW.out.trans (hb.mono BW.out.size)⟩); clear ho hb)
      go_roundw
      case rel => exact ⟨i + 1, by go_num, by omega, FIN⟩
      case measure => simp [intOf]; omega
    · have FIN := Lib.hid (show LiesR wr (.slice oa (madeF (l.take i)).length oc) (madeF l) ∧ Below w.heap.size w wr from by
        have h := KK.out
        rw [show l.take i = l from List.take_of_length_le (by omega)] at h ⊢
        exact h)
      clear KK
      go_wp2
      go_returns
      exact ⟨_, rfl, FIN.out.1, FIN.out.2⟩
set_option maxHeartbeats 3200000 in
theorem made_rows (w : World) (v : Value) (l : List Rw) (h : LiesR w v l) (hl : l.length ≤ 1000) (hk : ∀ x ∈ l, x.ok) :
    Calls Try.prog 18 #[v] w fun e w' => ∃ p b, e = .returned (.pointer (some ⟨p, 0, none⟩)) ∧ TabI w' p b (madeF l) ∧ w.heap.size ≤ p ∧ w.heap.size ≤ b ∧ Below w.heap.size w w' := by
  have L := Lib.hid h
  have HK := Lib.hid hk
  obtain ⟨ao, cap, rfl⟩ := h.shape
  have N := Lib.hid (new_any w)
  clear h hk
  go_enter Try.func18, Try.ntmps18
  go_wp2_with fail
  refine N.out.mono ?_
  rintro e w1 ⟨p, b, rfl, h1, h2, h3, h4⟩
  have T1 := Lib.hid h1
  have PB := Lib.hid (And.intro h2 h3)
  have B1 := Lib.hid h4
  clear h1 h2 h3 h4 N
  go_wp2_with fail
  go_loopw [4] (fun kv wr => ∃ i : Nat, kv = .int .i64 i ∧ i ≤ l.length ∧ Hid (TabI wr p b (madeF (l.take i)) ∧ Below w.heap.size w wr)) (fun kv _ => l.length - (intOf kv).toNat)
  case atStart => exact ⟨0, rfl, Nat.zero_le _, Lib.hid ⟨T1.out, B1.out⟩⟩
  case round =>
    obtain ⟨i, rfl, hi, hK⟩ := hrel
    have KK := Lib.hid hK.out
    clear hK T1
    by_cases hlt : i < l.length
    · obtain ⟨g, o, x, rfl, hx, hg, a0, a1, a2, a3, a4, a5⟩ := L.out.row hlt
      have SN := Lib.hid (madeF_snoc hx)
      have HX := Lib.hid (HK.out x (List.mem_of_getElem? hx))
      have CA := Lib.hid (fun W m (ht : TabI W p b m) (hm : m.length ≤ 1000) => set_any W p b m ht (by omega) x HX.out)
      have TO := Lib.hid (fun W => to_any W x.pt x.pr x.nm x.d)
      have AF := Lib.hid (fun W (hb : Below w.heap.size w W) => (show W.cell? ⟨g, o + i * 6, none⟩ = some (.int .i64 x.t) ∧ W.cell? ⟨g, o + i * 6 + 1, none⟩ = some (.int .i64 x.r) ∧ W.cell? ⟨g, o + i * 6 + 2, none⟩ = some (.int .i64 x.pt) ∧ W.cell? ⟨g, o + i * 6 + 3, none⟩ = some (.int .i64 x.pr) ∧ W.cell? ⟨g, o + i * 6 + 4, none⟩ = some (.string x.nm) ∧ W.cell? ⟨g, o + i * 6 + 5, none⟩ = some (.bool x.d) from ⟨(hb.cell (p := ⟨g, o + i * 6, none⟩) hg).trans a0, (hb.cell (p := ⟨g, o + i * 6 + 1, none⟩) hg).trans a1, (hb.cell (p := ⟨g, o + i * 6 + 2, none⟩) hg).trans a2, (hb.cell (p := ⟨g, o + i * 6 + 3, none⟩) hg).trans a3, (hb.cell (p := ⟨g, o + i * 6 + 4, none⟩) hg).trans a4, (hb.cell (p := ⟨g, o + i * 6 + 5, none⟩) hg).trans a5⟩))
      have LM := Lib.hid (show (madeF (l.take i)).length ≤ 1000 from by have := madeF_len (l.take i); rw [List.length_take] at this; omega)
      generalize madeF (l.take i) = m at *
      have BB := Lib.hid (KK.out.2.trans ((below_drewN wr 1).mono KK.out.2.size))
      have TT := Lib.hid (KK.out.1.step (below_drewN wr 1))
      clear hx hg a0 a1 a2 a3 a4 a5 KK
      go_upto_region 5 with (fail)
      go_region_held3 (fun w' => w'.cell? ⟨g, o + i * 6, none⟩ = some (.int .i64 x.t) ∧ w'.cell? ⟨g, o + i * 6 + 1, none⟩ = some (.int .i64 x.r) ∧ w'.cell? ⟨g, o + i * 6 + 2, none⟩ = some (.int .i64 x.pt) ∧ w'.cell? ⟨g, o + i * 6 + 3, none⟩ = some (.int .i64 x.pr) ∧ w'.cell? ⟨g, o + i * 6 + 4, none⟩ = some (.string x.nm) ∧ w'.cell? ⟨g, o + i * 6 + 5, none⟩ = some (.bool x.d)) (exact AF.out _ BB.out)
        (first
        | (go_at_call 43; refine (TO.out _).mono ?_; rintro e w3 ⟨rfl, hb⟩; have BB := Lib.hid (BB.out.trans (hb.mono BB.out.size)); have TT := Lib.hid (TT.out.step hb); clear hb)
        | (go_at_call 42; refine (CA.out _ _ TT.out LM.out).mono ?_; rintro e w4 ⟨rfl, ho⟩; have BB := Lib.hid (BB.out.trans (ho.below PB.out.2 BB.out.size)); have TT := Lib.hid ho.tab; clear ho))
      all_goals
        go_wp2
        go_roundw
        case rel => exact ⟨i + 1, by go_num, by omega, Lib.hid ⟨by rw [SN.out]; exact TT.out, BB.out⟩⟩
        case measure => simp [intOf]; omega
    · have FIN := Lib.hid (show TabI wr p b (madeF l) ∧ Below w.heap.size w wr from by
        have h := KK.out
        rw [show l.take i = l from List.take_of_length_le (by omega)] at h
        exact h)
      clear KK
      go_wp2
      go_returns
      exact ⟨p, b, rfl, FIN.out.1, PB.out.1, PB.out.2, FIN.out.2⟩
end Go.Proofs.Ythbmbpnpigpgpaa

