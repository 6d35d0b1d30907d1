/- The chapter's example. -/
import Derived.Test.YthbliaohaakbiaaGK
set_option linter.unusedVariables false
set_option linter.unusedSimpArgs false
set_option maxRecDepth 100000
namespace Go.Proofs.Ythbliaohaakbiaa
open Go.RowKit Go.Sort

theorem row_liesK {α : Type} {enc : α → List Value} {k : Nat} (hk : ∀ x, (enc x).length = k) {w : World} {g : Nat} {e : TypeId} {l : List α} (hm : l.length ≤ maxLen) (hb : w.heap[g]? = some (.cells (l.flatMap enc).toArray e (0, 0))) : LiesK enc k w (.slice (some ⟨g, 0, none⟩) l.length l.length) l :=
  own_liesK (B := 0) (e := e) hk ⟨flat_len hk l, .inr ⟨g, l.length, (l.flatMap enc).toArray, rfl, Nat.zero_le _, hb, Nat.le_refl _, hm, by simp [flat_len hk], by rw [← flat_len hk, List.take_length]⟩⟩
def exA : ByteArray := ⟨#[97]⟩
def exL : List It := [⟨3, 0, exA, true⟩, ⟨2, 0, exA, false⟩, ⟨1, 0, exA, true⟩]
def exS : List It := [⟨1, 0, exA, true⟩, ⟨2, 0, exA, false⟩, ⟨3, 0, exA, true⟩]
def exG : List Gp := [⟨exA, true, [(1, 0), (3, 0)]⟩, ⟨exA, false, [(2, 0)]⟩]
theorem ex_gOf : gOf exS = exG := by
  simp [gOf, exS, gput, exG, ndI]
theorem ex_is : IsOf exL exG := by
  refine ⟨exS, ?_, ?_, ?_, ?_⟩
  · exact (List.reverse_perm exL)
  · unfold RiseI exS ndI
    simp [ltP]
  · rw [ex_gOf]
  · unfold UpG exG
    simp [ltG, Gp.key, ltP, h1]
theorem ex_unlike : Unlike exL := by
  unfold Unlike exL ndI
  simp
set_option maxHeartbeats 6400000 in
theorem awake_any (w : World) : Calls Try.prog 8 #[] w fun e w' => e = .returned (.bool true) ∧ Below w.heap.size w w' := by
  have V0 := vstep w (.cells (exL.flatMap encI).toArray 41)
  have OF := Lib.hid (of_any (w.alloc (.cells (exL.flatMap encI).toArray 41)) (.slice (some ⟨w.heap.size, 0, none⟩) 3 3) exL (row_liesK (l := exL) encI_len (by decide) (heap_alloc_new w _)) (by decide) ex_unlike (fun x hx => by
    simp [exL] at hx
    rcases hx with rfl | rfl | rfl <;> (show (1 : Nat) ≤ _; unfold maxLen; omega)))
  have B0 := Lib.hid V0
  clear V0
  go_enter Try.func8, Try.ntmps8
  go_wp2_with fail
  refine OF.out.mono ?_
  rintro e w1 ⟨r, gs, rfl, hL, hI, hb⟩
  have hG : gs.map Gn.p = exG := of_perm (List.Perm.refl _) hI ex_is
  have B1 := Lib.hid (B0.out.trans (hb.mono B0.out.size))
  have hlen : gs.length = 2 := by have := congrArg List.length hG; rw [List.length_map] at this; exact this
  obtain ⟨ao, cap, rfl⟩ := hL.1.shape
  obtain ⟨g, o, x, rfl, hx, hg, a0, a1, a2⟩ := grN hL.1 (i := 0) (by omega)
  obtain ⟨g', o', y, e', hy, hg', b0, b1, b2⟩ := grN hL.1 (i := 1) (by omega)
  injection e' with e'
  injection e' with e1 e2
  subst e1 e2
  have hx1 : x.d = true ∧ x.l = [(1, 0), (3, 0)] := by
    have := congrArg (fun z => z[0]?) hG
    simp only [List.getElem?_map, hx, Option.map_some] at this
    injection this with this
    injection this with _ q1 q2
    exact ⟨q1, q2⟩
  have hy1 : y.d = false ∧ y.l = [(2, 0)] := by
    have := congrArg (fun z => z[1]?) hG
    simp only [List.getElem?_map, hy, Option.map_some] at this
    injection this with this
    injection this with _ q1 q2
    exact ⟨q1, q2⟩
  rw [hx1.1] at a1
  rw [hy1.1] at b1
  have hxm := List.mem_of_getElem? hx
  have hym := List.mem_of_getElem? hy
  have NX : LiesK encS 2 w1 (.slice x.a x.l.length x.c) [(1, 0), (3, 0)] := by have := hL.2 x hxm; rw [← hx1.2]; exact this
  have NY : LiesK encS 2 w1 (.slice y.a y.l.length y.c) [(2, 0)] := by have := hL.2 y hym; rw [← hy1.2]; exact this
  obtain ⟨xv, hxv⟩ : ∃ n, x.l.length = n := ⟨_, rfl⟩
  obtain ⟨yv, hyv⟩ : ∃ n, y.l.length = n := ⟨_, rfl⟩
  rw [hxv] at NX a2
  rw [hyv] at NY b2
  obtain ⟨xa, hxa⟩ : ∃ n, x.a = n := ⟨_, rfl⟩
  obtain ⟨ya, hya⟩ : ∃ n, y.a = n := ⟨_, rfl⟩
  obtain ⟨xc, hxc⟩ : ∃ n, x.c = n := ⟨_, rfl⟩
  obtain ⟨yc, hyc⟩ : ∃ n, y.c = n := ⟨_, rfl⟩
  rw [hxa, hxc] at NX a2
  rw [hya, hyc] at NY b2
  have V2 := vstep w1 (.cells #[.int .i64 1, .int .i64 0, .int .i64 3, .int .i64 0] 39)
  have S2 : LiesK encS 2 (w1.alloc (.cells #[.int .i64 1, .int .i64 0, .int .i64 3, .int .i64 0] 39)) (.slice (some ⟨w1.heap.size, 0, none⟩) 2 2) [(1, 0), (3, 0)] := row_liesK (l := ([(1, 0), (3, 0)] : List Sp)) encS_len (by decide) (heap_alloc_new w1 _)
  have SM1 := Lib.hid (show Calls Try.prog 18 #[.slice xa xv xc, .slice (some ⟨w1.heap.size, 0, none⟩) 2 2] (w1.alloc (.cells #[.int .i64 1, .int .i64 0, .int .i64 3, .int .i64 0] 39)) _ from rsame_any _ _ _ _ _ (NX.step V2) S2)
  rw [decide_eq_true rfl] at SM1
  have SM2 := Lib.hid (fun W (hb : Below w1.heap.size w1 W) => show Calls Try.prog 18 #[.slice ya yv yc, .slice (some ⟨W.heap.size, 0, none⟩) 1 1] (W.alloc (.cells #[.int .i64 2, .int .i64 0] 39)) (fun e w' => e = .returned (.bool true) ∧ Below (W.alloc (.cells #[.int .i64 2, .int .i64 0] 39)).heap.size (W.alloc (.cells #[.int .i64 2, .int .i64 0] 39)) w') from by
    have := rsame_any _ _ _ _ _ ((NY.step hb).step (vstep W (.cells #[.int .i64 2, .int .i64 0] 39))) (show LiesK encS 2 (W.alloc (.cells #[.int .i64 2, .int .i64 0] 39)) (.slice (some ⟨W.heap.size, 0, none⟩) 1 1) [(2, 0)] from one_liesK (p := ((2, 0) : Sp)) encS_len (heap_alloc_new W _))
    rw [decide_eq_true rfl] at this
    exact this)
  have BB := Lib.hid V2
  have CF := Lib.hid (fun W (hb : Below w1.heap.size w1 W) => show W.cell? ⟨g, o + 3 + 1, none⟩ = some (.bool false) ∧ W.cell? ⟨g, o + 3 + 2, none⟩ = some (.slice ya yv yc) from ⟨by have := (hb.cell (p := ⟨g, o + 1 * 3 + 1, none⟩) hg).trans b1; simpa using this, by have := (hb.cell (p := ⟨g, o + 1 * 3 + 2, none⟩) hg).trans b2; simpa using this⟩)
  simp only [Nat.zero_mul, Nat.add_zero, Nat.one_mul] at a0 a1 a2 b0 b1 b2
  rw [hlen]
  clear hL hI hG hb hg hg' hx1 hy1 V2 S2 hlen hx hy hxm hym NX NY hxv hyv hxa hya hxc hyc OF
  go_wp2_with (first
    | (go_at_call 18; with_reducible refine SM1.out.mono ?_; rintro e w3 ⟨rfl, hb3⟩; have B3 := Lib.hid (BB.out.trans (hb3.mono BB.out.size)); clear hb3 b0 b1 b2; obtain ⟨b1, b2⟩ := CF.out w3 B3.out)
    | (go_at_call 18; with_reducible refine (SM2.out _ B3.out).mono ?_; rintro e w4 ⟨rfl, hb4⟩; have B4 := Lib.hid (B3.out.trans (((vstep w3 (.cells #[.int .i64 2, .int .i64 0] 39)).trans (hb4.mono (vstep w3 _).size)).mono B3.out.size)); clear hb4))
  go_returns
  exact ⟨rfl, B1.out.trans (B4.out.mono B1.out.size)⟩
end Go.Proofs.Ythbliaohaakbiaa
