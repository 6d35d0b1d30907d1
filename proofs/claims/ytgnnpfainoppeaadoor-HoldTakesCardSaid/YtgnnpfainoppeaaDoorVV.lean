/- Text of both. -/
import Derived.Test.YtgnnpfainoppeaaDoorVP
import Derived.Test.YtgnnpfainoppeaaDoorRNumW
set_option linter.unusedVariables false
namespace Go.Proofs.YtgnnpfainoppeaaDoor.Ve
open Go.RowKit

def cs1 (xs : List ByteArray) : List Value := xs.map Value.string
def piece (i : Nat) (n : Int) : ByteArray := decS (i : Int) ++ ⟨#[58]⟩ ++ decS n
def partsF (l : List Int) : Nat → List ByteArray
  | 0 => []
  | i + 1 => partsF l i ++ (if 0 < l.getD i 0 then [piece i (l.getD i 0)] else [])
def textF (l : List Int) : ByteArray := ⟨(Lib.join ((partsF l 64).map (·.data.toList)) [32]).toArray⟩
def I63 (l : List Int) : Prop := ∀ (j : Nat) x, l[j]? = some x → x ≤ 9223372036854775807
theorem piece_size (i : Nat) (n : Int) (hi : i < 64) (hn : n ≤ 9223372036854775807) : (piece i n).size ≤ 43 := by
  unfold piece
  rw [ByteArray.size_append, ByteArray.size_append]
  have h1 := decS_size (i : Int) (by omega)
  have h2 := decS_size n hn
  have h3 : (ByteArray.mk #[58]).size = 1 := rfl
  omega
theorem partsF_small (l : List Int) (hl : I63 l) : ∀ i, i ≤ 64 → ∀ x ∈ partsF l i, x.size ≤ 43
  | 0, _, x, h => by cases h
  | i + 1, hi, x, h => by
    rcases List.mem_append.1 h with h | h
    · exact partsF_small l hl i (by omega) x h
    · split at h
      · rw [List.mem_singleton.1 h]
        refine piece_size i _ (by omega) ?_
        rw [List.getD_eq_getElem?_getD]
        cases hq : l[i]? with
        | none => simp
        | some y => exact hl i y hq
      · cases h
theorem join_small (sep : List UInt8) : ∀ (xs : List (List UInt8)), (∀ x ∈ xs, x.length ≤ 43) → (Lib.join xs sep).length ≤ xs.length * (43 + sep.length)
  | [], _ => by simp [Lib.join]
  | [x], h => by
    have := h x (List.mem_singleton.2 rfl)
    simp only [Lib.join, List.intercalate_singleton, List.length_singleton]; omega
  | x :: y :: r, h => by
    have h1 := h x (List.mem_cons_self ..)
    have h2 := join_small sep (y :: r) (fun z hz => h z (List.mem_cons_of_mem _ hz))
    have e : Lib.join (x :: y :: r) sep = x ++ sep ++ Lib.join (y :: r) sep := by unfold Lib.join; rw [List.intercalate_cons_cons]
    rw [e, List.length_append, List.length_append, List.length_cons, Nat.succ_mul]
    omega
theorem Tryd.u62 : Tryd.prog.underlying 90 = some (.slice 9) := by kernel_rfl
theorem Tryd.info9 : (Tryd.prog.info? 9).map (fun i => (i.zero, i.size, i.bytes)) = some (some (.string ⟨#[]⟩), 1, 16) := by kernel_rfl
theorem src_str (w : World) (p : ByteArray) : Src Tryd.prog 1 90 (.slice (some ⟨w.heap.size, 0, none⟩) 1 1) 1 (cs1 [p]) (w.alloc (.cells #[.string p] 9)) := by
  have hg := heap_alloc_new w (.cells #[.string p] 9)
  refine Src.ofSlice _ Tryd.u62 _ _ _ _ rfl ?_ (fun u hu => by rw [List.mem_singleton.1 hu]; rfl)
  intro j u hj
  rw [add_addr, Nat.zero_add, cell_of_row _ _ _ _ _ _ hg]
  match j, hj with
  | 0, hj => injection hj with hj; subst hj; rfl
  | j + 1, hj => simp [cs1] at hj
set_option maxRecDepth 100000 in
set_option maxHeartbeats 400000 in
theorem join_none (w : World) (ao : Option Addr) (c : Nat) (sep : ByteArray) :
    Calls Tryd.prog 47 #[.slice ao 0 c, .string sep] w fun e w' => e = .returned (.string ⟨#[]⟩) ∧ Below w.heap.size w w' := by
  go_enter Tryd.func47, Tryd.ntmps47
  go_wp2
  go_returns
  exact ⟨rfl, Below.refl _ _⟩

theorem join_own (w : World) (B : Nat) (v : Value) (xs : List ByteArray) (h : w.ownsRow B 9 1 v xs.length (cs1 xs)) (hx : ∀ x ∈ xs, x.size ≤ 43) (hn : xs.length ≤ 64) :
    Calls Tryd.prog 47 #[v, .string ⟨#[32]⟩] w fun e w' => e = .returned (.string ⟨(Lib.join (xs.map (·.data.toList)) [32]).toArray⟩) ∧ Below w.heap.size w w' := by
  by_cases h0 : xs.length = 0
  · obtain ⟨ao, c, rfl⟩ := own_shape h
    rw [List.eq_nil_of_length_eq_zero h0]
    exact join_none w ao c _
  · have hc := fun g (hg : v.ownBlock = some g) => h.cells hg
    rcases h.2 with ⟨_, h1⟩ | ⟨g, cap, cur, rfl, hB, hg, hcap, hmax, hsz, htk⟩
    · exact absurd h1 h0
    · refine Tryd.strings_Join g 0 cap xs ⟨#[32]⟩ w ?_ (lt_of_block hg) (by omega) hcap ?_
      · intro j x hj
        have := hc g rfl j (.string x) (by unfold cs1; rw [List.getElem?_map, hj]; rfl)
        rwa [add_addr] at this
      · have := join_small [32] (xs.map (·.data.toList)) (fun x hx' => by
          obtain ⟨y, hy, rfl⟩ := List.mem_map.1 hx'
          have := hx y hy
          rw [Array.length_toList]; exact this)
        rw [List.length_map] at this
        simp only [List.length_singleton] at this
        have e : (ByteArray.mk #[32]).data.toList = [32] := rfl
        rw [e]
        omega

set_option maxRecDepth 100000 in
set_option maxHeartbeats 1600000 in
theorem text_any (w : World) (l : List Int) (hl : l.length = 64) (hI : I63 l) (ht : Tab w) :
    Calls Tryd.prog 30 #[vw l] w fun e w' => e = .returned (.string (textF l)) ∧ Below w.heap.size w w' := by
  obtain ⟨i0, hi45, hz0, hz1, hz2⟩ := info_parts Tryd.info9
  have X := Lib.hid ((Below.refl w.heap.size w).alloc (Nat.le_refl _) (.cells (va l) 27))
  have LD := Lib.hid (load_va v24 (w.alloc (.cells (va l) 27)) w.heap.size l hl (heap_alloc_new w (.cells (va l) 27)))
  have G := Lib.hid (va_get l)
  have hsz : (va l).size = 64 := by rw [va_size, hl]
  have HL := Lib.hid hl
  have HII := Lib.hid hI
  have HT := Lib.hid ht
  have HZ := Lib.hid (show (w.alloc (.cells (va l) 27)).heap.size = w.heap.size + 1 by simp)
  have PS := Lib.hid (partsF_small l hI 64 (Nat.le_refl _))
  generalize hW : w.alloc (.cells (va l) 27) = W0 at *
  have HW := Lib.hid hW
  clear hW hl hI ht
  unfold vw
  generalize va l = A at *
  go_enter Tryd.func30, Tryd.ntmps30
  go_wp2_with (first | (rw [HW.out]; refine wpList_load_arr rfl (.tmp 1) 27 rfl _ _ rfl LD.out ?_))
  go_loopw [3, 7] (fun rv iv wr => ∃ (i : Nat) (xs : List ByteArray), iv = .int .i64 i ∧ i ≤ 64 ∧ xs.length ≤ i ∧ Hid (xs = partsF l i ∧ wr.ownsRow (w.heap.size + 1) 9 1 rv xs.length (cs1 xs) ∧ Below W0.heap.size W0 wr)) (fun _ iv _ => 64 - (intOf iv).toNat)
  case atStart => exact ⟨0, [], rfl, Nat.zero_le _, Nat.zero_le _, Lib.hid ⟨rfl, World.ownsRow_nil _ _ _ _, Below.refl _ _⟩⟩
  case round =>
    obtain ⟨i, xs, rfl, hi, hcl, hI⟩ := hrel
    obtain ⟨ra, rc, rfl⟩ := own_shape hI.out.2.1
    by_cases hlt : i < 64
    · obtain ⟨x, hx⟩ := va_len l HL.out i hlt
      have IX := fun W => index_va W A hsz i hlt x (G.out i x hx)
      have HN := Lib.hid (show partsF l (i + 1) = xs ++ (if 0 < x then [piece i x] else []) by
        show partsF l i ++ _ = _
        rw [hI.out.1, getD_of hx])
      have hx63 := HII.out i x hx
      clear hx
      by_cases hxy : 0 < x
      · have HN2 := Lib.hid (show xs ++ [piece i x] = partsF l (i + 1) by rw [HN.out, if_pos hxy])
        have D1 := Lib.hid (fun W (h : Below w.heap.size w W) => digits_any W (i : Int) (by omega) (tab_later HT.out h))
        have D2 := Lib.hid (fun W (h : Below w.heap.size w W) => digits_any W x hx63 (tab_later HT.out h))
        have z1 := decS_size (i : Int) (by omega)
        have z2 := decS_size x hx63
        obtain ⟨si, hsi⟩ : ∃ si, decS (i : Int) = si := ⟨_, rfl⟩
        obtain ⟨sx, hsx⟩ : ∃ sx, decS x = sx := ⟨_, rfl⟩
        unfold piece at HN2
        rw [hsi, hsx] at HN2
        rw [hsi] at D1 z1
        rw [hsx] at D2 z2
        clear hsi hsx
        have B0 := Lib.hid (X.out.trans (hI.out.2.2.mono X.out.size))
        go_wp2_with fail
        refine (D1.out _ B0.out).mono ?_
        rintro e w1 ⟨rfl, hb1⟩
        have C1 := Lib.hid (hI.out.2.2.trans (hb1.mono hI.out.2.2.size))
        have O1 := Lib.hid (hI.out.2.1.kept (row := none) (w' := w1) ⟨hb1.os, hb1.tape, hb1.output, hb1.size, fun k hk _ => hb1.block k hk⟩ (by cases h : (Value.slice ra xs.length rc).ownBlock <;> simp))
        have B1 := Lib.hid (B0.out.trans (hb1.mono B0.out.size))
        clear hb1
        go_wp2_with fail
        refine (D2.out _ B1.out).mono ?_
        rintro e w2 ⟨rfl, hb2⟩
        have C2 := Lib.hid (C1.out.trans (hb2.mono C1.out.size))
        have O2 := Lib.hid (O1.out.kept (row := none) (w' := w2) ⟨hb2.os, hb2.tape, hb2.output, hb2.size, fun k hk _ => hb2.block k hk⟩ (by cases h : (Value.slice ra xs.length rc).ownBlock <;> simp))
        clear hb2
        have SR := Lib.hid (fun p => src_str w2 p)
        have BAl := Lib.hid (fun p => C2.out.alloc C2.out.size (.cells #[.string p] 9))
        have OAl := Lib.hid (fun p => O2.out.alloc (.cells #[.string p] 9))
        have hsa : Hid (∀ p, w.heap.size + 1 ≤ (w2.alloc (.cells #[.string p] 9)).heap.size) := Lib.hid (fun p => by have := (BAl.out p).size; rw [HZ.out] at this; exact this)
        have hlo : Hid (∀ k, (Value.slice ra xs.length rc).ownBlock = some k → W0.heap.size ≤ k) := Lib.hid (fun k hk => by rw [HZ.out]; exact (O2.out.lt k hk).1)
        go_wp2_with (at_builtin; refine wpList_append_src_own rfl (.tmp 13) (.tmp 20) 90 90 rfl (w.heap.size + 1) 9 i0 (.string ⟨#[]⟩) 1 16 Tryd.u62 hi45 hz0 hz1 hz2 rfl (by decide) (.slice ra xs.length rc) xs.length (cs1 xs) rfl (OAl.out _) _ 1 (cs1 [_]) rfl (SR.out _) (by unfold maxLen; omega) (by omega) (hsa.out _) ?_; intro v3 w3 hown hgr hspr; have K := Lib.hid hown; have KB := Lib.hid ((BAl.out _).grown hgr (BAl.out _).size hlo.out); clear hown hgr hspr; obtain ⟨a3, c3, rfl⟩ := own_shape K.out)
        go_roundw
        case rel => exact ⟨i + 1, xs ++ [si ++ ⟨#[58]⟩ ++ sx], by go_num, by omega, by rw [List.length_append]; exact Nat.succ_le_succ hcl, Lib.hid ⟨HN2.out, by unfold cs1; rw [List.map_append, List.length_append]; exact K.out, KB.out⟩⟩
        case measure => simp [intOf]; omega
      · have HN2 := Lib.hid (show xs = partsF l (i + 1) by rw [HN.out, if_neg hxy, List.append_nil])
        go_wp2
        go_roundw
        case rel => exact ⟨i + 1, xs, by go_num, by omega, by omega, Lib.hid ⟨HN2.out, hI.out.2.1, hI.out.2.2⟩⟩
        case measure => simp [intOf]; omega
    · have hi64 : i = 64 := by omega
      subst hi64
      have JN := Lib.hid (join_own wr _ _ xs hI.out.2.1 (by rw [hI.out.1]; exact PS.out) hcl)
      have HE := Lib.hid (show (⟨(Lib.join (xs.map (·.data.toList)) [32]).toArray⟩ : ByteArray) = textF l by unfold textF; rw [← hI.out.1])
      rw [HE.out] at JN
      have B0 := Lib.hid (X.out.trans (hI.out.2.2.mono X.out.size))
      go_wp2_with fail
      refine JN.out.mono ?_
      rintro e w2 ⟨rfl, hb2⟩
      have B2 := Lib.hid (B0.out.trans (hb2.mono B0.out.size))
      clear hb2
      go_wp2
      go_returns
      exact ⟨rfl, B2.out⟩
end Go.Proofs.YtgnnpfainoppeaaDoor.Ve

