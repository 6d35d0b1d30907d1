/- StableSure: plain facts. -/
import Derived.Test.YtgemlkccdcbpdaaSJ
set_option linter.unusedVariables false
namespace Go.Proofs.Ytgemlkccdcbpdaa
open Go.RowKit

theorem join_zs {v : List Int} (hv : v.length = 64) (hr : RightP v) : joinF [zs, v] = v := by
  apply List.ext_getElem?
  intro j
  by_cases hj : j < 64
  · obtain ⟨x, hx⟩ := va_len v hv j hj
    have h0 := (hr j x hx).1
    have hz := zs_get j hj
    show (List.zipWith max (List.zipWith max zs zs) v)[j]? = _
    rw [List.getElem?_zipWith, List.getElem?_zipWith, hz, hx]
    show some (max (max 0 0) x) = some x
    congr 1
    omega
  · rw [List.getElem?_eq_none (by show (List.zipWith max (List.zipWith max zs zs) v).length ≤ j; rw [List.length_zipWith, List.length_zipWith, hv, zs_len]; omega), List.getElem?_eq_none (by omega)]
theorem meet_self (v : List Int) : meetF v v = v := by
  unfold meetF
  induction v with
  | nil => rfl
  | cons x r ih => rw [List.zipWith_cons_cons, ih]; congr 1; omega
theorem right_time {c : Bool} {t : Int} (h : rightM c t = true) : c = true ∧ 0 ≤ t ∧ t ≤ 281474976710656 := by
  unfold rightM at h
  rw [Bool.and_eq_true, Bool.and_eq_true, decide_eq_true_iff, decide_eq_true_iff] at h
  exact ⟨h.1.1, h.1.2, h.2⟩
theorem ex0_floor : floorF ex0 = 0 := by decide +kernel
theorem sure_ms1 {v : List Int} (hv : v.length = 64) (hr : RightP v) {a : Int} (ha : 0 ≤ a) : toldAt ex0 0 v a = [(v, a), mz] := by
  show [((joinF [zs, v], max 0 a) : Mb), mz] = _
  rw [join_zs hv hr, Int.max_eq_right ha]
theorem sure_floor1 {v : List Int} {a : Int} (ha : 0 ≤ a) : floorF [(v, a), mz] = 0 := by
  show min (min a a) 0 = 0
  omega
theorem sure_heardB {c : Bool} {b : Int} : heardB 2 0 1 c b = rightM c b := by
  unfold heardB
  have h1 : isM 2 1 = true := by decide
  have h2 : decide ((1 : Int) ≠ ((0 : Nat) : Int)) = true := by decide
  rw [h1, h2]; rfl
theorem sure_ms2 {v u : List Int} (hu : u.length = 64) (hr : RightP u) {a b : Int} (hb : 0 ≤ b) {c : Bool} (hc : rightM c b = true) : heardF [(v, a), mz] 0 1 u c b = [(v, a), (u, if getF v 1 < getF u 1 then 0 else b)] := by
  unfold heardF
  rw [show ([(v, a), mz] : List Mb).length = 2 from rfl, sure_heardB, hc, if_pos rfl]
  show [((v, a) : Mb), told mz u (heardT [(v, a), mz] 0 1 u b)] = _
  have : told mz u (heardT [(v, a), mz] 0 1 u b) = (u, if getF v 1 < getF u 1 then 0 else b) := by
    unfold told heardT
    show ((joinF [zs, u], max 0 (if getF v 1 < getF u 1 then 0 else b)) : Mb) = _
    rw [join_zs hu hr]
    congr 1
    split <;> omega
  rw [this]
theorem sure_same {v u : List Int} {a b : Int} {c : Bool} (hc : rightM c b = false) : heardF [(v, a), mz] 0 1 u c b = [(v, a), mz] := by
  unfold heardF
  rw [show ([(v, a), mz] : List Mb).length = 2 from rfl, sure_heardB, hc]
  rfl
theorem sure_floor2 {v u : List Int} {a t : Int} : floorF [(v, a), (u, t)] = min a t := by
  show min (min a a) t = min a t
  omega
theorem sure_meet {v u : List Int} {a t : Int} : meetAll [(v, a), (u, t)] = meetF v u := by
  show meetF (meetF v v) u = meetF v u
  rw [meet_self]
end Go.Proofs.Ytgemlkccdcbpdaa
