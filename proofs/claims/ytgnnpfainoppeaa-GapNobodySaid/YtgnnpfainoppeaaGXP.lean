/- What both laws need: what is put, what is taken, plain. -/
import Derived.Test.YtgnnpfainoppeaaGT
set_option linter.unusedVariables false
set_option linter.unusedSimpArgs false
set_option maxRecDepth 100000
namespace Go.Proofs.Ytgnnpfainoppeaa
open Go.RowKit Go.WideMaps Go.Maps
open Ve (zs zs_len vw va RightP cs3 cs3_append)

theorem ok_add {l : List O} {vv : List Int} {o : O} (h : OkO l) : OkO (addL l vv o) := by
  unfold addL
  split
  · rename_i h0
    have hr : rO o = true := by
      cases hr : rO o with
      | true => rfl
      | false => unfold addI at h0; rw [hr] at h0; simp at h0
    obtain ⟨_, f2, f3⟩ := rO_facts hr
    intro x hx
    unfold setG at hx
    rcases List.mem_append.1 hx with hx | hx
    · exact h x (List.mem_filter.1 hx).1
    · rcases List.mem_cons.1 hx with rfl | hx
      · exact ⟨f2, f3⟩
      · exact h x (List.mem_filter.1 hx).1
  · exact h
theorem set_len {l : List O} (h : RiseG l) (x : O) : (setG l x).length ≤ l.length + 1 := by
  have hd : ∀ l : List O, (l.filter (fun y => ltG y x)).length + (l.filter (fun y => ltG x y)).length ≤ l.length := by
    intro l
    induction l with
    | nil => simp
    | cons a l ih =>
      rcases ltg_tri a x with ⟨q1, _, q3⟩ | ⟨q1, _, q3⟩ | ⟨q1, _, q3⟩
      · rw [List.filter_cons_of_pos (by simpa using q1), List.filter_cons_of_neg (by simp [q3])]; simp; omega
      · rw [List.filter_cons_of_neg (by simp [q1]), List.filter_cons_of_neg (by simp [q3])]; simp; omega
      · rw [List.filter_cons_of_neg (by simp [q1]), List.filter_cons_of_pos (by simpa using q3)]; simp; omega
  have := hd l
  unfold setG
  rw [List.length_append, List.length_cons]
  omega
theorem add_len {l : List O} (h : RiseG l) {vv : List Int} {o : O} : (addL l vv o).length ≤ l.length + 1 := by
  unfold addL
  split
  · exact set_len h o
  · omega
theorem rdy_ok {l : List O} (hs : RiseG l) (h : OkO l) (k : Int → Int) (m : Int) : OkO (rdyR l k m).1 ∧ (rdyR l k m).1.length ≤ l.length ∧ RiseG (rdyR l k m).1 := by
  rw [rdy_eq hs]
  refine ⟨fun o ho => h o (List.mem_filter.1 (List.mem_filter.1 ho).1).1, Nat.le_trans (List.length_filter_le _ _) (List.length_filter_le _ _), (hs.filter _).filter _⟩
theorem own_belowK {w w' : World} {B e n size : Nat} {v : Value} {xs : List Value} (h : w.ownsRow B e size v n xs) (hb : Below w.heap.size w w') : w'.ownsRow B e size v n xs := own_keep h hb
theorem same_self (W : World) (v1 v2 : Value) (l : List O) (h1 : OLies W v1 l) (h2 : OLies W v2 l) : Calls Try.prog 14 #[v1, v2] W fun e w' => e = .returned (.bool true) ∧ Below W.heap.size W w' := by
  refine (rsameO_any W v1 v2 l l h1 h2).mono ?_
  rintro e w' ⟨rfl, hb⟩
  rw [sameO_self]
  exact ⟨rfl, hb⟩
/-- What a law's drawn regions read. -/
def VS (w : World) (k : Nat) (VM : Array Value) (W : World) : Prop := Below w.heap.size w W ∧ (Instr.loadAt 29 (pvo k 0)).run Try.prog W = .ok (.agg VM) W
def BLies (w : World) (v : Value) (l : List Int) : Prop := ∃ ao cap, v = .slice ao l.length cap ∧ l.length ≤ 9223372036854775807 ∧ (ao = none → l = []) ∧
  (∀ b, ao = some b → l ≠ [] → ∃ g k, b = ⟨g, k, none⟩ ∧ g < w.heap.size ∧ ∀ (j : Nat) x, l[j]? = some x → w.cell? ⟨g, k + j, none⟩ = some (.int .u8 x)) ∧ ∀ x ∈ l, 0 ≤ x ∧ x < 256
theorem BLies.at {w w' : World} {ao : Option Addr} {n cap : Nat} {l : List Int} (h : BLies w (.slice ao n cap) l) (hb : Below w.heap.size w w') {i : Nat} {x : Int} (hp : l[i]? = some x) :
    ∃ g k, ao = some ⟨g, k, none⟩ ∧ w'.cell? ⟨g, k + i, none⟩ = some (.int .u8 x) ∧ 0 ≤ x ∧ x < 256 := by
  obtain ⟨ao', cap', e, _, h1, h2, h3⟩ := h
  injection e with e1 e2 e3
  subst e1
  cases ao with
  | none => rw [h1 rfl] at hp; cases hp
  | some b =>
    obtain ⟨g, k, rfl, hg, hc⟩ := h2 b rfl (by rintro rfl; cases hp)
    exact ⟨g, k, rfl, (hb.cell (p := ⟨g, k + i, none⟩) hg).trans (hc i x hp), h3 x (List.mem_of_getElem? hp)⟩
end Go.Proofs.Ytgnnpfainoppeaa
