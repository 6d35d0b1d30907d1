/- Slices of bytes that a call owns, and the text made of them. -/
import Derived.Test.YtiolkopmoailmaaDoorAwA
import Derived.Test.YtiolkopmoailmaaDoorOwn
set_option linter.unusedVariables false
namespace Go.Proofs.YtiolkopmoailmaaDoor
open Go.RowKit

theorem Tryd.info5 : (Tryd.prog.info? 5).map (fun i => (i.zero, i.size, i.bytes)) = some (some (.int .u8 0), 1, 1) := by kernel_rfl
def u8s (l : List Int) : List Value := l.map (Value.int .u8)
theorem u8s_length (l : List Int) : (u8s l).length = l.length := List.length_map _
theorem u8s_append (l m : List Int) : u8s (l ++ m) = u8s l ++ u8s m := List.map_append
theorem u8s_one (l : List Int) : ∀ u ∈ u8s l, u.oneCell' = true := by
  intro u hu
  obtain ⟨x, _, rfl⟩ := List.mem_map.1 hu
  rfl
theorem own_shape {w : World} {B e size n : Nat} {v : Value} {xs : List Value} (h : w.ownsRow B e size v n xs) : ∃ ao cap, v = .slice ao n cap := by
  rcases h.2 with ⟨rfl, rfl⟩ | ⟨g, cap, cur, rfl, _⟩
  · exact ⟨_, _, rfl⟩
  · exact ⟨_, _, rfl⟩
theorem src_one {P : Program} {t e : TypeId} (hk : P.underlying t = some (.slice e)) (w : World) (x : Int) (T : TypeId) : Src P 1 t (.slice (some ⟨w.heap.size, 0, none⟩) 1 1) 1 (u8s [x]) (w.alloc (.cells #[.int .u8 x] T)) := by
  refine Src.ofSlice _ hk _ _ _ _ rfl ?_ (u8s_one _)
  intro j u hj
  match j, hj with
  | 0, hj =>
    have e : u = .int .u8 x := by simpa [u8s] using hj.symm
    rw [e]
    exact cell_of_one (heap_alloc_new w (.cells #[.int .u8 x] T))
  | j + 1, hj => simp [u8s] at hj
theorem row_one {w wr w1 : World} {v v1 : Value} {cs : List Int} {x : Int} {T : TypeId} (hE : Below w.heap.size w wr) (hW : wr.ownsRow w.heap.size 5 1 v cs.length (u8s cs)) (hown : w1.ownsRow w.heap.size 5 1 v1 (cs.length + 1) (u8s cs ++ u8s [x]))
    (hgr : (wr.alloc (.cells #[.int .u8 x] T)).grownBy w1 v.ownBlock) : w1.ownsRow w.heap.size 5 1 v1 (cs ++ [x]).length (u8s (cs ++ [x])) ∧ Below w.heap.size w w1 := by
  refine ⟨by rw [u8s_append, List.length_append]; exact hown, ?_⟩
  exact (hE.alloc hE.size _).grown hgr (by have := hE.size; simp; omega) (fun k hk => (hW.lt k hk).1)

/-- A text out of bytes that the call owns. -/
theorem conv_own {w : World} {B : Nat} {v : Value} {bs : List Int} (h : w.ownsRow B 5 1 v bs.length (u8s bs)) : (convert 42 9 v).run Tryd.prog w = .ok (.string (strOfNums bs)) w := by
  rcases h.2 with ⟨rfl, hn⟩ | ⟨g, cap, cur, rfl, hB, hg, hn, hm, hs, ht⟩
  · have : bs = [] := List.eq_nil_of_length_eq_zero hn
    subst this
    rw [run_convert_bytes_string w 42 9 5 none 0 0 Tryd.underlying42 Tryd.underlying5 Tryd.underlying9]
    simp [Conv.bytesToString]; rfl
  · have hc := h.cells (g := g) rfl
    refine run_convert_bytes_arg w 42 5 Tryd.underlying42 Tryd.underlying5 g 0 bs.length cap bs rfl (fun i hi => ?_) 9 Tryd.underlying9
    have := hc i (.int .u8 bs[i]) (by unfold u8s; rw [List.getElem?_map, List.getElem?_eq_getElem hi]; rfl)
    have e : bs.getD i 0 = bs[i] := by simp [List.getD, hi]
    rw [e]
    by_cases h0 : i = 0
    · subst h0; simpa [Addr.add] using this
    · simpa [Addr.add, h0] using this

theorem so32 : strOfNums [32] = ⟨#[32]⟩ := by kernel_rfl

set_option maxRecDepth 100000 in
set_option maxHeartbeats 800000 in
theorem unquote_awake (w : World) : Calls Tryd.prog 20 #[.string ⟨#[37, 50, 48]⟩] w fun e w' => e = .returned (.tuple #[.string ⟨#[32]⟩, .bool true]) ∧ Below w.heap.size w w' := by
  obtain ⟨i0, hi, hz0, hz1, hz2⟩ := info_parts Tryd.info5
  have P := Lib.hid (fun W => plain_any W ((ByteArray.mk #[37, 50, 48])[0]'(by decide)).toNat)
  have hp : plainB ((ByteArray.mk #[37, 50, 48])[0]'(by decide)).toNat = false := by kernel_rfl
  rw [hp] at P
  have Q := Lib.hid quoted_awake
  have b0 : (((ByteArray.mk #[37, 50, 48])[0]'(by decide)).toNat : Int) = 37 := by kernel_rfl
  clear hp
  go_enter Tryd.func20, Tryd.ntmps20
  go_wp2
  go_loopw [4, 5] (fun bv av wr => ∃ (k : Int) (cs : List Int), av = .int .i64 k ∧ (k = 0 ∧ cs = [] ∨ k = 3 ∧ cs = [32]) ∧ wr.ownsRow w.heap.size 5 1 bv cs.length (u8s cs) ∧ Below w.heap.size w wr) (fun _ av _ => 3 - (intOf av).toNat)
  case atStart => exact ⟨0, [], rfl, .inl ⟨rfl, rfl⟩, World.ownsRow_nil _ _ _ _, Below.refl _ _⟩
  case round =>
    obtain ⟨k, cs, rfl, hk, hW, hE⟩ := hrel
    have HW := Lib.hid hW
    have HE := Lib.hid hE
    have hB2 := hE.size
    rcases hk with ⟨rfl, hcs⟩ | ⟨rfl, hcs⟩
    · have hl : cs.length ≤ 1 := by rw [hcs]; decide
      have HC := Lib.hid hcs
      obtain ⟨ao, cp, rfl⟩ := own_shape hW
      clear hW hE hcs
      go_wp2_with fail
      refine (P.out _).mono ?_
      rintro e w1 ⟨rfl, rfl⟩
      go_wp2_with fail
      refine (Q.out _).mono ?_
      rintro e w2 ⟨rfl, hb⟩
      have HO : Hid (w2.ownsRow w.heap.size 5 1 (.slice ao cs.length cp) cs.length (u8s cs)) := Lib.hid (by
        have h2 := HW.out
        exact h2.kept (row := none) ⟨hb.os, hb.tape, hb.output, hb.size, fun k hk _ => hb.block k hk⟩ (by cases h : (Value.slice ao cs.length cp).ownBlock <;> simp))
      have HX := Lib.hid (HE.out.trans (hb.mono hB2))
      have hB3 := HX.out.size
      clear hb
      go_wp2_with (at_builtin; refine wpList_append_src_own rfl (.tmp 31) (.tmp 33) 42 42 rfl w.heap.size 5 i0 (.int .u8 0) 1 1 Tryd.underlying42 hi hz0 hz1 hz2 rfl (by decide) _ _ _ rfl (HO.out.alloc _) _ 1 _ rfl (src_one Tryd.underlying42 _ (32 : Int) 5) (by unfold maxLen; omega) (by omega) (by simp; omega) ?_; intro w3 v3 hown hgr hspr; have K := Lib.hid (row_one HX.out HO.out hown hgr); clear hown hgr hspr)
      go_roundw
      case rel => exact ⟨3, [32], rfl, .inr ⟨rfl, rfl⟩, by have := K.out.1; rw [HC.out] at this; exact this, K.out.2⟩
      case measure => simp [intOf]
    · have cv := conv_own hW
      have cs32 : strOfNums cs = ⟨#[32]⟩ := by rw [hcs]; exact so32
      rw [cs32] at cv
      obtain ⟨ao, cp, rfl⟩ := own_shape hW
      clear hW hE hcs cs32
      go_wp2
      go_returns
      exact ⟨rfl, HE.out⟩
end Go.Proofs.YtiolkopmoailmaaDoor
