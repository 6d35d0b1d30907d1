/- The law's vectors: Made, made. -/
import Derived.Test.YtgnnpfainoppeaaVE
import Derived.Deep.RegionHeld3
import Derived.Laws.StructEq
set_option linter.unusedVariables false
namespace Go.Proofs.Ytgnnpfainoppeaa.Ve
open Go.RowKit

theorem add_addr (k o j : Nat) : (⟨k, o, none⟩ : Addr).add j = ⟨k, o + j, none⟩ := by
  unfold Addr.add; split <;> simp_all
/-- A slice of the law's pairs. -/
def LiesO (w : World) (v : Value) (l : List (Nat × Int)) : Prop := ∃ ao cap, v = .slice ao l.length cap ∧ l.length ≤ 9223372036854775807 ∧ (ao = none → l = []) ∧
  ∀ b, ao = some b → l ≠ [] → ∃ k o, b = ⟨k, o, none⟩ ∧ k < w.heap.size ∧ ∀ (j : Nat) p, l[j]? = some p → p.1 < 256 ∧ w.cell? ⟨k, o + j * 2, none⟩ = some (.int .u8 (p.1 : Int)) ∧ w.cell? ⟨k, o + j * 2 + 1, none⟩ = some (.int .i64 p.2)
theorem LiesO.at {w : World} {ao : Option Addr} {n cap : Nat} {l : List (Nat × Int)} (h : LiesO w (.slice ao n cap) l) {i : Nat} {p : Nat × Int} (hp : l[i]? = some p) :
    ∃ k o, ao = some ⟨k, o, none⟩ ∧ p.1 < 256 ∧ w.cell? ⟨k, o + i * 2, none⟩ = some (.int .u8 (p.1 : Int)) ∧ w.cell? ⟨k, o + i * 2 + 1, none⟩ = some (.int .i64 p.2) ∧ k < w.heap.size := by
  obtain ⟨ao', cap', e, h1, h3, h4⟩ := h
  injection e with e1 e2 e3
  subst e1
  cases ao with
  | none => have := h3 rfl; subst this; cases hp
  | some b =>
    obtain ⟨k, o, rfl, hk, hc⟩ := h4 b rfl (by rintro rfl; cases hp)
    exact ⟨k, o, rfl, (hc i p hp).1, (hc i p hp).2.1, (hc i p hp).2.2, hk⟩
theorem LiesO.shape {w : World} {v : Value} {l : List (Nat × Int)} (h : LiesO w v l) : ∃ ao cap, v = .slice ao l.length cap := by
  obtain ⟨ao, cap, e, _⟩ := h; exact ⟨ao, cap, e⟩
def putO (v : List Int) (p : Nat × Int) : List Int := v.set (p.1 % 64) p.2
def madeF (l : List (Nat × Int)) : List Int := (l.take 200).foldl putO zs
theorem putO_len (v : List Int) (p : Nat × Int) : (putO v p).length = v.length := by unfold putO; exact List.length_set
theorem foldO_len : ∀ (l : List (Nat × Int)) (v : List Int), (l.foldl putO v).length = v.length
  | [], v => rfl
  | p :: r, v => by rw [List.foldl_cons, foldO_len r, putO_len]
set_option maxRecDepth 100000 in
set_option maxHeartbeats 1600000 in
theorem Made_any (w : World) (v : Value) (l : List (Nat × Int)) (h : LiesO w v l) :
    Calls Try.prog 9 #[v] w fun e w' => e = .returned (vw (madeF l)) ∧ Below w.heap.size w w' := by
  have X := Lib.hid (boxes w (va zs) (va zs) 29)
  have AZ := Lib.hid (alloc_va z24 w)
  have AY := Lib.hid (alloc_va z24 (w.alloc (.cells (va zs) 29)))
  rw [World.size_alloc] at AY
  have LD := Lib.hid (fun W (l' : List Int) (h1 : l'.length = 64) (h : W.heap[w.heap.size + 1]? = some (.cells (va l') 29 (0, 0))) => load_va v24 W (w.heap.size + 1) l' h1 h)
  have ST := Lib.hid (fun W (l' : List Int) (h1 : l'.length = 64) (h : W.heap[w.heap.size]? = some (.cells (va zs) 29 (0, 0))) => store_va v24 W w.heap.size (va zs) (by rw [va_size, zs_len]) l' h1 h)
  have H := Lib.hid h
  have hlm : l.length ≤ 9223372036854775807 := by obtain ⟨_, _, _, g1, _⟩ := h; exact g1
  obtain ⟨ao, cap, rfl⟩ := h.shape
  generalize hW1 : w.alloc (.cells (va zs) 29) = W1 at *
  generalize hW : W1.alloc (.cells (va zs) 29) = W at *
  clear hW hW1 h
  go_enter Try.func9, Try.ntmps9
  go_wp2_with (first | refine wpList_alloc_arr rfl 29 rfl _ _ AZ.out ?_ | refine wpList_alloc_arr rfl 29 rfl _ _ AY.out ?_)
  go_loopw [4] (fun iv wr => ∃ (i : Nat) (cur : List Int), iv = .int .i64 i ∧ i ≤ l.length ∧ i ≤ 200 ∧ Hid (cur = (l.take i).foldl putO zs ∧ wr.heap[w.heap.size]? = some (.cells (va zs) 29 (0, 0)) ∧ wr.heap[w.heap.size + 1]? = some (.cells (va cur) 29 (0, 0)) ∧ Below w.heap.size w wr)) (fun iv _ => 200 - (intOf iv).toNat)
  case atStart => exact ⟨0, zs, rfl, Nat.zero_le _, Nat.zero_le _, Lib.hid ⟨rfl, X.out.2.1, X.out.2.2, X.out.1⟩⟩
  case round =>
    obtain ⟨i, cur, rfl, hil, hi2, hI⟩ := hrel
    have HCL := Lib.hid (show cur.length = 64 by rw [hI.out.1, foldO_len, zs_len])
    by_cases hlt : i < l.length ∧ i < 200
    · obtain ⟨hl1, hl2⟩ := hlt
      obtain ⟨p, hp⟩ : ∃ p, l[i]? = some p := ⟨_, List.getElem?_eq_getElem hl1⟩
      obtain ⟨k, o, e1, hp256, d0, d1, hk⟩ := H.out.at hp
      subst e1
      have d0 := (hI.out.2.2.2.cell (p := ⟨k, o + i * 2, none⟩) hk).trans d0
      have d1 := (hI.out.2.2.2.cell (p := ⟨k, o + i * 2 + 1, none⟩) hk).trans d1
      have hkn : k ≠ w.heap.size + 1 := by omega
      have hkn2 : w.heap.size + 1 ≠ k := by omega
      obtain ⟨p1, p2⟩ := p
      dsimp only at d0 d1 hp256
      obtain ⟨m, hm⟩ : ∃ m, m = p1 % 64 := ⟨_, rfl⟩
      have hm64 : m < 64 := by omega
      obtain ⟨x, hx⟩ := va_len cur HCL.out m hm64
      have g := cell_va hI.out.2.2.1 hx
      have f := frozen_of_row _ _ m _ _ hI.out.2.2.1
      have HN : Hid (cur.set m p2 = (l.take (i + 1)).foldl putO zs) := Lib.hid (by rw [take_snoc' l i _ hp, List.foldl_append, ← hI.out.1, hm]; rfl)
      have R1 := Lib.hid (show (wr.setCell ⟨w.heap.size + 1, m, none⟩ (.int .i64 p2)).drew.heap[w.heap.size + 1]? = some (.cells (va (cur.set m p2)) 29 (0, 0)) from set_va hI.out.2.2.1 m p2)
      have R2 := Lib.hid (show (wr.setCell ⟨w.heap.size + 1, m, none⟩ (.int .i64 p2)).drew.heap[w.heap.size]? = some (.cells (va zs) 29 (0, 0)) from (Below.heap_setCell _ _ _ _ (by show w.heap.size ≠ w.heap.size + 1; omega)).trans hI.out.2.1)
      have BY := Lib.hid ((hI.out.2.2.2.setCell (p := ⟨w.heap.size + 1, m, none⟩) (by show w.heap.size ≤ w.heap.size + 1; omega) (.int .i64 p2)).drew)
      have hm0 : (0 : Int) ≤ (m : Int) := by omega
      have hm1 : (m : Int) < 64 := by omega
      have q1 : IntKind.i64.wrap (p1 : Int) = (p1 : Int) := by rw [IntKind.wrap_i64]; omega
      have q2 : (p1 : Int) % 64 = (m : Int) := by omega
      have q3 : IntKind.i64.wrap (m : Int) = (m : Int) := by rw [IntKind.wrap_i64]; omega
      have q4 : Int.tmod (p1 : Int) 64 = (m : Int) := by rw [Int.tmod_eq_emod_of_nonneg (by omega)]; omega
      clear hp hx hm
      go_wp2
      go_region_held3 (fun w' => w'.cell? ⟨k, o + i * 2, none⟩ = some (.int .u8 (p1 : Int)) ∧ w'.cell? ⟨k, o + i * 2 + 1, none⟩ = some (.int .i64 p2)) (go_keep) (fail)
      go_wp2
      go_roundw
      case rel => exact ⟨i + 1, cur.set m p2, by go_num, by omega, by omega, Lib.hid ⟨HN.out, R2.out, R1.out, BY.out⟩⟩
      case measure => simp [intOf]; omega
    · have hie : l.take i = l.take 200 := by
        by_cases h : i < l.length
        · rw [show i = 200 by omega]
        · rw [List.take_of_length_le (by omega), List.take_of_length_le (by omega)]
      have HE : Hid (cur = madeF l) := Lib.hid (by rw [hI.out.1, hie]; rfl)
      have hd : (¬ i < l.length) ∨ (i < l.length ∧ ¬ i < 200) := by
        by_cases h : i < l.length
        · exact .inr ⟨h, fun h2 => hlt ⟨h, h2⟩⟩
        · exact .inl h
      clear hie hlt
      rcases hd with hd | ⟨hd, hd2⟩
      all_goals
        go_wp2_with (first | refine wpList_load_arr rfl (.tmp 3) 29 rfl _ _ rfl (LD.out _ _ HCL.out hI.out.2.2.1) ?_ | refine wpList_store_arr rfl (.tmp 2) (.tmp 28) 29 rfl _ _ rfl rfl _ (ST.out _ _ HCL.out hI.out.2.1) ?_)
        refine bodyPost_ret (ret_va (b := w.heap.size) rfl v24 HCL.out rfl (setRow_heap _ _ _ _ _ _ hI.out.2.1)) rfl ⟨by rw [HE.out], below_setRow hI.out.2.2.2 (Nat.le_refl _) _⟩
end Go.Proofs.Ytgnnpfainoppeaa.Ve


