/- strings.Cut at a point; name.Digits. -/
import Derived.Test.YtgnnpfainoppeaaDoorNum
import Derived.Test.YtgnnpfainoppeaaDoorShelf
import Derived.Test.YtgnnpfainoppeaaDoorLater
import Derived.Lib.AppendIntMem
import Derived.Lib.IndexLaws
import Derived.Lib.LaidTab
import Derived.Lib.ItoaLen
import Derived.Deep.QuietTactic
set_option linter.unusedVariables false
namespace Go.Proofs.YtgnnpfainoppeaaDoor.Ve
open Go.RowKit

theorem tab_later {P : Program} {w w' : World} {name : String} {k : IntKind} {zs : List Int} (h : Lib.TabIs P w name k zs) (hb : Below w.heap.size w w') : Lib.TabIs P w' name k zs := by
  unfold Lib.TabIs World.var? at *
  cases hg : P.globalNamed name with
  | none => rw [hg] at h; simp at h
  | some g =>
    rw [hg] at h
    simp only [Option.bind_some] at h ⊢
    have hlt : g < w.heap.size := by
      rcases Nat.lt_or_ge g w.heap.size with h' | h'
      · exact h'
      · rw [Array.getElem?_eq_none h'] at h; simp at h
    rw [hb.block g hlt]
    exact h


/-- A number's digits. -/
def decS (n : Int) : ByteArray := ⟨(Lib.decDigits n.toNat).toArray⟩

def Tab (w : World) : Prop := Lib.TabIs Tryd.prog w "internal/strconv.uint64pow10" .u64 Lib.pow10Tab
set_option maxRecDepth 100000 in
set_option maxHeartbeats 400000 in
theorem digits_any (w : World) (n : Int) (h1 : n ≤ 9223372036854775807) (ht : Tab w) : Calls Tryd.prog 46 #[.int .i64 n] w fun e w' => e = .returned (.string (decS n)) ∧ Below w.heap.size w w' := by
  have hm : max n 0 = (n.toNat : Int) := (Int.toNat_eq_max _).symm
  have C := Lib.hid (Tryd.strconv_Itoa (n.toNat : Int) (by omega) (by omega) w ht)
  have hd : (⟨(Lib.itoa (n.toNat : Int)).toArray⟩ : ByteArray) = decS n := by rw [Lib.itoa_nonneg]; rfl
  rw [hd] at C
  have HM := Lib.hid hm
  clear hm hd ht
  go_enter Tryd.func46, Tryd.ntmps46
  go_wp2_with fail
  rw [HM.out]
  refine C.out.mono ?_
  rintro e w1 ⟨rfl, k, os, hw⟩
  have hb : Below w.heap.size w w1 := by rw [hw]; exact Lib.below_grow _ w (Nat.le_refl _) k os
  have HB := Lib.hid hb
  clear hw hb
  go_wp2
  go_returns
  exact ⟨rfl, HB.out⟩

theorem decS_size (n : Int) (h1 : n ≤ 9223372036854775807) : (decS n).size ≤ 21 := by
  have := Lib.itoa_length_le (n.toNat : Int) (by omega) (by omega)
  rw [Lib.itoa_nonneg] at this
  unfold decS
  simpa [ByteArray.size] using this

end Go.Proofs.YtgnnpfainoppeaaDoor.Ve

