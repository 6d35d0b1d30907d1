/- The reference's stamp of a text: the same as the program's. -/
import Derived.Test.YtglalmpjopckfabDoorRNumW
import Derived.Test.YtglalmpjopckfabDoorBack
set_option linter.unusedVariables false
namespace Go.Proofs.YtglalmpjopckfabDoor
open Go.RowKit

def Good (s : ByteArray) (j t r : Nat) : Prop :=
  (∃ h : j < s.size, (s[j]'h).toNat = 46) ∧ numOf (s.extract 0 j).data.toList = some t ∧ numOf (s.extract (j + 1) s.size).data.toList = some r ∧ (rightB t r || resB t r) = true

theorem numOf_dig {l : List UInt8} {v : Nat} (h : numOf l = some v) : l.all isD = true := by
  unfold numOf at h
  split at h
  · exact absurd h (by simp)
  · next c =>
    cases hd : l.all isD with
    | true => rfl
    | false => exact absurd (.inr (.inr (.inl (by rw [hd]; simp)))) c

theorem good_parse {s : ByteArray} {j t r : Nat} (h : Good s j t r) : parseP s = (((t : Int), (r : Int)), 0) := by
  obtain ⟨⟨hj, h46⟩, h1, h2, h3⟩ := h
  have hlen : s.data.toList.length = s.size := by rw [Array.length_toList]; rfl
  have ht : (s.extract 0 j).data.toList = s.data.toList.take j := by rw [Lib.extract_data]; simp
  have hg : s.get! j = 46 := by
    apply UInt8.toNat_inj.1
    have : s.get! j = s[j]'hj := get_at s j hj
    rw [this, h46]; rfl
  have hsp : s.data.toList = s.data.toList.take j ++ 46 :: s.data.toList.drop (j + 1) := by
    have e := (List.take_append_drop (j + 1) s.data.toList).symm
    rw [take_snoc s j hj, hg, List.append_assoc] at e
    exact e
  have hi : Lib.indexByte s.data.toList 46 = j := by
    rw [hsp, idx_here]
    · rw [List.length_take]; omega
    · intro x hx hc
      have hd := numOf_dig h1
      rw [ht] at hd
      have := List.all_eq_true.1 hd x hx
      rw [hc] at this
      simp [isD] at this
  unfold parseP cutAt
  rw [hi, if_pos (by omega), Int.toNat_natCast]
  simp only
  rw [h1, h2]
  simp only
  rw [if_pos h3]

theorem bad_parse {s : ByteArray} (h : ∀ j, j < s.size → ∀ t r, ¬ Good s j t r) : parseP s = ((0, 0), 4) := by
  unfold parseP cutAt
  by_cases hi : 0 ≤ Lib.indexByte s.data.toList 46
  · rw [if_pos hi]
    simp only
    have hlt := idx_lt hi
    have hv := (Lib.indexByte_some (l := s.data.toList) (c := 46) (o := (Lib.indexByte s.data.toList 46).toNat) (by omega)).1
    generalize (Lib.indexByte s.data.toList 46).toNat = j at *
    have h46 : (s[j]'hlt).toNat = 46 := by
      obtain ⟨h1, h2⟩ := List.getElem?_eq_some_iff.1 hv
      have : (s[j]'hlt) = s.data.toList[j]'h1 := rfl
      rw [this, h2]; rfl
    cases h1 : numOf (s.extract 0 j).data.toList with
    | none => rfl
    | some t =>
      cases h2 : numOf (s.extract (j + 1) s.size).data.toList with
      | none => rfl
      | some r =>
        simp only
        rw [if_neg (fun h3 => h j hlt t r ⟨⟨hlt, h46⟩, h1, h2, h3⟩)]
  · rw [if_neg hi]
    simp only
    have : numOf (ByteArray.mk #[]).data.toList = none := rfl
    rw [this]
    cases numOf s.data.toList <;> rfl

theorem numV_gen (l : List UInt8) : ∃ (a : Int) (ok : Bool), numV l = .tuple #[.int .i64 a, .bool ok] ∧ ((ok = true ∧ ∃ t : Nat, a = t ∧ numOf l = some t) ∨ (ok = false ∧ numOf l = none)) := by
  unfold numV
  cases h : numOf l with
  | none => exact ⟨_, _, rfl, .inr ⟨rfl, rfl⟩⟩
  | some t => exact ⟨_, _, rfl, .inl ⟨rfl, t, rfl, rfl⟩⟩

/-- What the reference tells. -/
def rparseV (s : ByteArray) : Value := .tuple #[.agg #[.int .i64 (parseP s).1.1, .int .i64 (parseP s).1.2], .bool ((parseP s).2 == 0)]

def PI (w wr : World) : Prop := Below w.heap.size w wr ∧ wr.heap[w.heap.size]? = some (.cells #[.int .i64 0, .int .i64 0] 23 (0, 0))
theorem PI.step {w wr w' : World} (h : PI w wr) (hb : Below wr.heap.size wr w') : PI w w' :=
  ⟨h.1.trans (hb.mono h.1.size), (hb.block _ (lt_of_block h.2)).trans h.2⟩

set_option maxRecDepth 100000 in
set_option maxHeartbeats 4000000 in
theorem rparse_any (w : World) (s : ByteArray) (hs : s.size ≤ 1000000) :
    Calls Tryd.prog 10 #[.string s] w fun e w' => e = .returned (rparseV s) ∧ Below w.heap.size w w' := by
  have P0 : PI w (w.alloc (.cells #[.int .i64 0, .int .i64 0] 23)) := ⟨(Below.refl w.heap.size w).alloc (Nat.le_refl _) _, heap_alloc_new w _⟩
  have HP := Lib.hid P0
  have C := Lib.hid (fun W (s : ByteArray) (h : s.size ≤ 9223372036854775807) => rnumber_any W s h)
  have R := Lib.hid (fun W (a b : Int) => rright_any W a b)
  have S := Lib.hid (fun W (a b : Int) => rres_any W a b)
  clear P0
  go_enter Tryd.func10, Tryd.ntmps10
  go_wp2
  go_loopw [4] (fun iv wr => ∃ i : Nat, iv = .int .i64 i ∧ i ≤ s.size ∧ Hid (PI w wr ∧ ∀ j, j < i → ∀ t r, ¬ Good s j t r)) (fun iv _ => s.size - (intOf iv).toNat)
  case atStart => exact ⟨0, rfl, by omega, HP.out, fun j hj => by omega⟩
  case round =>
    obtain ⟨i, rfl, hi, hI⟩ := hrel
    by_cases hlt : i < s.size
    · obtain ⟨a1, ok1, e1, m1⟩ := numV_gen (s.extract 0 i).data.toList
      obtain ⟨a2, ok2, e2, m2⟩ := numV_gen (s.extract (i + 1) s.size).data.toList
      have N1 := Lib.hid (fun W => C.out W (s.extract 0 i) (by simp only [ByteArray.size_extract]; omega))
      have N2 := Lib.hid (fun W => C.out W (s.extract (i + 1) s.size) (by simp only [ByteArray.size_extract]; omega))
      rw [e1] at N1
      rw [e2] at N2
      have M1 := Lib.hid m1
      have M2 := Lib.hid m2
      clear e1 e2 m1 m2
      go_wp2_with fail
      refine (N1.out _).mono ?_
      rintro e w2 ⟨rfl, hb2⟩
      have I2 := Lib.hid (hI.out.1.step hb2)
      clear hb2
      go_wp2_with fail
      refine (N2.out _).mono ?_
      rintro e w3 ⟨rfl, hb3⟩
      have I3 := Lib.hid (I2.out.step hb3)
      clear hb3
      have NX := Lib.hid (fun (h : ∀ t r, ¬ Good s i t r) j (hj : j < i + 1) t r => show ¬ Good s j t r from if hji : j = i then hji ▸ h t r else hI.out.2 j (by omega) t r)
      have I4 := Lib.hid (fun x y => I3.out.step ((Below.refl w3.heap.size w3).alloc (Nat.le_refl _) (.cells #[x, y] 23)))
      by_cases h46 : (s[i]'hlt).toNat = 46
      · have HD := Lib.hid h46
        cases ok1
        · have NG := Lib.hid (NX.out (fun t r h => by
            rcases M1.out with ⟨e, _⟩ | ⟨_, e⟩
            · cases e
            · have := h.2.1; rw [e] at this; exact absurd this (by simp)))
          go_wp2
          go_roundw
          case rel => exact ⟨i + 1, by go_num, by omega, I4.out _ _, NG.out⟩
          case measure => simp [intOf]; omega
        · cases ok2
          · have NG := Lib.hid (NX.out (fun t r h => by
              rcases M2.out with ⟨e, _⟩ | ⟨_, e⟩
              · cases e
              · have := h.2.2.1; rw [e] at this; exact absurd this (by simp)))
            go_wp2
            go_roundw
            case rel => exact ⟨i + 1, by go_num, by omega, I4.out _ _, NG.out⟩
            case measure => simp [intOf]; omega
          · obtain ⟨_, t, rfl, m1⟩ : true = true ∧ ∃ t : Nat, a1 = t ∧ numOf (s.extract 0 i).data.toList = some t := by
              rcases M1.out with h | ⟨e, _⟩
              · exact h
              · cases e
            obtain ⟨_, r, rfl, m2⟩ : true = true ∧ ∃ r : Nat, a2 = r ∧ numOf (s.extract (i + 1) s.size).data.toList = some r := by
              rcases M2.out with h | ⟨e, _⟩
              · exact h
              · cases e
            have G := Lib.hid (fun (h : (rightB t r || resB t r) = true) => show rparseV s = .tuple #[.agg #[.int .i64 (t : Int), .int .i64 (r : Int)], .bool true] by
              unfold rparseV; rw [good_parse (show Good s i t r from ⟨⟨hlt, HD.out⟩, m1, m2, h⟩)]; rfl)
            have NG := Lib.hid (fun (h : (rightB t r || resB t r) = false) => NX.out (fun t' r' g => by
              have e1 := g.2.1
              have e2 := g.2.2.1
              rw [m1] at e1
              rw [m2] at e2
              cases e1; cases e2
              have := g.2.2.2
              rw [h] at this
              cases this))
            have K := Lib.hid (heap_alloc_new w3 (.cells #[.int .i64 (t : Int), .int .i64 (r : Int)] 23))
            have RR := Lib.hid (fun W => R.out W t r)
            have SS := Lib.hid (fun W => S.out W t r)
            clear m1 m2
            generalize rightB t r = x at *
            generalize resB t r = y at *
            cases x
            · go_wp2_with fail
              refine (RR.out _).mono ?_
              rintro e w5 ⟨rfl, hb5⟩
              have I5 := Lib.hid ((I4.out _ _).step hb5)
              have r5 := (hb5.block w3.heap.size (by simp)).trans K.out
              have R5 := Lib.hid r5
              obtain ⟨q0, q1, g0, g1⟩ := two_cells r5
              clear hb5 r5
              go_wp2_with fail
              refine (SS.out _).mono ?_
              rintro e w6 ⟨rfl, hb6⟩
              have I6 := Lib.hid (I5.out.step hb6)
              have r6 := (hb6.block w3.heap.size (lt_of_block R5.out)).trans R5.out
              obtain ⟨p0, p1, _, _⟩ := two_cells r6
              obtain ⟨c0, c1, f0, f1⟩ := two_cells I6.out.2
              clear hb6 r6 q0 q1 g0 g1
              cases y
              · go_wp2
                go_roundw
                case rel => exact ⟨i + 1, by go_num, by omega, I6.out, NG.out rfl⟩
                case measure => simp [intOf]; omega
              · have EV := Lib.hid (G.out rfl)
                go_wp2
                refine bodyPost_ret (v := .tuple #[.agg #[.int .i64 (t : Int), .int .i64 (r : Int)], .bool true]) (by simp [results, Tryd.results10, go_sem, c0, c1]) rfl ⟨ret_v EV.out.symm, ?_⟩
                exact (I6.out.1.setCell (Nat.le_refl _) _).setCell (Nat.le_refl _) _
            · have EV := Lib.hid (G.out rfl)
              go_wp2_with fail
              refine (RR.out _).mono ?_
              rintro e w5 ⟨rfl, hb5⟩
              have I5 := Lib.hid ((I4.out _ _).step hb5)
              have r5 := (hb5.block w3.heap.size (by simp)).trans K.out
              obtain ⟨q0, q1, g0, g1⟩ := two_cells r5
              obtain ⟨c0, c1, f0, f1⟩ := two_cells I5.out.2
              clear hb5 r5
              go_wp2
              refine bodyPost_ret (v := .tuple #[.agg #[.int .i64 (t : Int), .int .i64 (r : Int)], .bool true]) (by simp [results, Tryd.results10, go_sem, c0, c1]) rfl ⟨ret_v EV.out.symm, ?_⟩
              exact (I5.out.1.setCell (Nat.le_refl _) _).setCell (Nat.le_refl _) _
      · have tb := bneb_ ((s[i]'hlt).toNat : Int) 46 (by omega)
        have NG := Lib.hid (NX.out (fun t r h => by obtain ⟨_, e⟩ := h.1; exact h46 e))
        go_wp2
        go_roundw
        case rel => exact ⟨i + 1, by go_num, by omega, I4.out _ _, NG.out⟩
        case measure => simp [intOf]; omega
    · have hie : i = s.size := by omega
      have E := bad_parse (s := s) (fun j hj => hI.out.2 j (by omega))
      have EV := Lib.hid (show rparseV s = .tuple #[.agg #[.int .i64 0, .int .i64 0], .bool false] by unfold rparseV; rw [E]; rfl)
      obtain ⟨q0, q1, g0, g1⟩ := two_cells hI.out.1.2
      clear hie E
      go_wp2
      refine bodyPost_ret (v := .tuple #[.agg #[.int .i64 0, .int .i64 0], .bool false]) (by simp [results, Tryd.results10, go_sem, q0, q1]) rfl ⟨ret_v EV.out.symm, ?_⟩
      exact (hI.out.1.1.setCell (Nat.le_refl _) _).setCell (Nat.le_refl _) _
end Go.Proofs.YtglalmpjopckfabDoor
