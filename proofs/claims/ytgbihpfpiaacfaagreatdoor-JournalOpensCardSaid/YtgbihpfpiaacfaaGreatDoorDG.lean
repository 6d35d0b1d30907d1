/- A disk: Names. -/
import Derived.Test.YtgbihpfpiaacfaaGreatDoorDF
import Derived.Test.YtgbihpfpiaacfaaGreatDoorSrtS
set_option linter.unusedVariables false
set_option linter.unusedSimpArgs false
set_option maxRecDepth 100000
namespace Go.Proofs.YtgbihpfpiaacfaaGreatDoor
open Go.RowKit Go.WideMaps Go.Maps

theorem row_iter {w : World} {b r : Nat} {l done : List Fl} {base : Nat} {e : TypeId} {size : Nat} {v : Value} {m : Nat} {xs : List Value} (h : w.ownsRow base e size v m xs) (hr : DRg w b r l done) : some r ≠ v.ownBlock := by
  obtain ⟨es, left, cnt, h1, _⟩ := hr
  obtain ⟨_, _, _, _, _, _, _, _, _, hit, _⟩ := h1
  rcases h.2 with ⟨rfl, _⟩ | ⟨g, cap, cur, rfl, _, hb, _⟩
  · simp [Value.ownBlock]
  · intro e1
    have : r = g := by simpa [Value.ownBlock] using e1
    subst this
    rw [hit] at hb
    cases hb
theorem row_map {w : World} {b : Nat} {l : List Fl} {base : Nat} {e : TypeId} {size : Nat} {v : Value} {m : Nat} {xs : List Value} (h : w.ownsRow base e size v m xs) (hr : DM w b l) : some b ≠ v.ownBlock := by
  obtain ⟨es, h1, _⟩ := hr
  obtain ⟨es', c, hb', _⟩ := h1
  rcases h.2 with ⟨rfl, _⟩ | ⟨g, cap, cur, rfl, _, hb, _⟩
  · simp [Value.ownBlock]
  · intro e1
    have : b = g := by simpa [Value.ownBlock] using e1
    subst this
    rw [hb'] at hb
    cases hb
def nms (l : List Fl) : List ByteArray := l.map (·.n)
theorem rise_nms {l : List Fl} (h : Rise l) : (nms l).Pairwise (fun x y => ltB y x = false) := by
  unfold nms
  rw [List.pairwise_map]
  exact h.imp (fun {a b} hab => ltB_asymm hab)
theorem sorted_one {l1 l2 : List ByteArray} (hp : l1.Perm l2) (h1 : l1.Pairwise (fun x y => ltB y x = false)) (h2 : l2.Pairwise (fun x y => ltB y x = false)) : l1 = l2 :=
  List.Perm.eq_of_pairwise (le := fun x y => ltB y x = false) (fun a b _ _ q1 q2 => ltB_total q2 q1) h1 h2 hp
structure NI (w W : World) (b r : Nat) (l : List Fl) (v : Value) (done : List Fl) : Prop where
  rg : DRg W b r l done
  own : W.ownsRow w.heap.size 9 1 v (nms done).length ((nms done).flatMap encT)
  bel : Below w.heap.size w W
  big : w.heap.size ≤ r
  le : done.length ≤ l.length
theorem bs52 (W : World) (s : ByteArray) : (Instr.buildSlice 33 1 #[(0, .string s)]).run Tryz.prog W = .ok (.slice (some ⟨W.heap.size, 0, none⟩) 1 1) (W.alloc (.cells #[.string s] 9)) := by go_simp
set_option maxHeartbeats 1600000 in
theorem names_none (w : World) (B d : Nat) (s : DS) (h : DK w B d s) (hm : s.m = none) : Calls Tryz.prog 12 #[pv d] w fun e w' => e = .returned (.slice none 0 0) ∧ Below w.heap.size w w' := by
  obtain ⟨c0, c1, c2, c3, c4⟩ := h.cells
  rw [hm] at c1
  have hrg := run_range_nilMap (P := Tryz.prog) w 68 9 82 Tryz.underlying68
  have hnx : ∀ ty, (Instr.next (.pointer (some ⟨w.heap.size, 0, none⟩)) false ty).run Tryz.prog (w.alloc (.mapIter none 0 #[] 0)) = _ := fun ty => run_next_nilMap w ty 0 0 #[]
  have B1 := Lib.hid (vstep w (.mapIter none 0 #[] 0))
  have SO := Lib.hid (Tryz.slices_Sort_string_none none 0 (w.alloc (.mapIter none 0 #[] 0)))
  clear h c0 c2 c3 c4
  go_enter Tryz.func12, Tryz.ntmps12
  go_wp2
  try go_frame
  go_loopw [3] (fun sv wr => Hid (sv = .slice none 0 0 ∧ wr = w.alloc (.mapIter none 0 #[] 0))) (fun _ _ => 0)
  case atStart => exact Lib.hid ⟨rfl, rfl⟩
  case round =>
    obtain ⟨rfl, rfl⟩ := hrel.out
    go_wp2_with fail
    refine SO.out.mono ?_
    rintro e w4 ⟨rfl, rfl⟩
    go_wp2
    go_returns
    exact ⟨rfl, B1.out⟩
set_option maxHeartbeats 3200000 in
theorem names_some (w : World) (B d : Nat) (s : DS) (h : DK w B d s) (b : Nat) (hm : s.m = some b) (hdm : DM w b s.l) (hl : s.l.length < 100000) :
    Calls Tryz.prog 12 #[pv d] w fun e w' => ∃ v, e = .returned v ∧ w'.ownsRow w.heap.size 9 1 v (nms s.l).length ((nms s.l).flatMap encT) ∧ Below w.heap.size w w' := by
  obtain ⟨c0, c1, c2, c3, c4⟩ := h.cells
  rw [hm] at c1
  obtain ⟨i0, hi, hz0, hz1, hz2⟩ := info_parts info9
  obtain ⟨l, hl2⟩ : ∃ l, s.l = l := ⟨_, rfl⟩
  rw [hl2] at hdm hl ⊢
  have HM := Lib.hid hdm
  have RS := Lib.hid hdm.rise
  have HL := Lib.hid hl
  clear h c0 c2 c3 c4 hm hdm hl hl2
  go_enter Tryz.func12, Tryz.ntmps12
  go_wp2_with (at_range; refine wpList_drange rfl _ rfl b l rfl HM.out ?_; intro w2 hr hg hs; have R2 := Lib.hid hr; have G2 := Lib.hid hg; clear hr hg hs)
  have K0 := Lib.hid (show NI w w2 b w.heap.size l (.slice none 0 0) [] from ⟨R2.out, World.ownsRow_nil _ _ _ _, ⟨G2.out.os, G2.out.tape, G2.out.output, G2.out.size, fun k hk => G2.out.block k hk (by simp)⟩, Nat.le_refl _, Nat.zero_le _⟩)
  clear c1 R2 G2 HM
  go_frame
  go_loopw [3] (fun sv wr => ∃ done, Hid (NI w wr b w.heap.size l sv done)) (fun _ wr => wr.rangeLeft b w.heap.size)
  case atStart => exact ⟨[], K0⟩
  case round =>
    obtain ⟨done, hK⟩ := hrel
    obtain ⟨va, vc, rfl⟩ := own_shapeK hK.out.own
    have KH := Lib.hid hK.out
    have OW := Lib.hid hK.out.own
    have LK := Lib.hid (show (nms done).length < 100000 from by have := hK.out.le; have := HL.out; unfold nms; rw [List.length_map]; omega)
    obtain ⟨ks, hks⟩ : ∃ ks, nms done = ks := ⟨_, rfl⟩
    rw [hks] at OW LK ⊢
    have HK := Lib.hid hks
    clear hK K0 hks
    go_wp2_with (at_next; refine wpList_dnext rfl _ rfl b w.heap.size l done rfl KH.out.rg ?_ ?_)
    · intro hall
      have HA := Lib.hid (KH.out.rg.all hall)
      clear hall
      have SO := Lib.hid (sortS_own wr _ _ ks OW.out (by have := LK.out; omega))
      go_wp2_with fail
      refine SO.out.mono ?_
      rintro e w4 ⟨rfl, l', hp, hs, ho, hg⟩
      have EQ := Lib.hid (sorted_one (hp.trans (by rw [← HK.out]; exact HA.out.map _)) hs (rise_nms RS.out))
      have FIN := Lib.hid (show w4.ownsRow w.heap.size 9 1 (.slice va ks.length vc) (nms l).length ((nms l).flatMap encT) ∧ Below w.heap.size w w4 from by
        rw [EQ.out] at ho
        exact ⟨ho, KH.out.bel.grown hg KH.out.bel.size (fun k e => (OW.out.lt k e).1)⟩)
      clear hp hs ho hg EQ HA SO
      go_wp2
      go_returns
      exact ⟨_, rfl, FIN.out.1, FIN.out.2⟩
    · intro x w3 hx hn hr hlt hg hs hen
      have R3 := Lib.hid hr
      have LT := Lib.hid hlt
      have L3 := Lib.hid (KH.out.bel.grown hg KH.out.bel.size (fun k e => by cases e; exact Nat.le_refl _))
      have ME := Lib.hid (show (done ++ [x]).length ≤ l.length from hr.len)
      have O3 := Lib.hid (OW.out.kept hg (by
        have := row_iter OW.out KH.out.rg
        cases hv : (Value.slice va ks.length vc).ownBlock with
        | none => exact .inl rfl
        | some g => exact .inr (fun e => this (by rw [hv, e]))))
      have B5 := Lib.hid (vstep w3 (.cells #[.string x.n] 9))
      have H5 := Lib.hid (show (w3.alloc (.cells #[.string x.n] 9)).heap[w3.heap.size]? = some (.cells (encT x.n).toArray 9 (0, 0)) from heap_alloc_new w3 _)
      have O5 := Lib.hid (own_belowK O3.out B5.out)
      have Q5 := Lib.hid (And.intro (show ks.length + 1 ≤ maxLen from by have := LK.out; unfold maxLen; omega) (And.intro (show (ks.length + 1) * 16 ≤ 140737488355328 from by have := LK.out; omega) (show w.heap.size ≤ (w3.alloc (.cells #[.string x.n] 9)).heap.size from by have := L3.out.size; simp; omega)))
      have KY := Lib.hid (show nms (done ++ [x]) = ks ++ [x.n] from by rw [← HK.out]; simp [nms])
      have b5 := bs52 w3 x.n
      clear hr hlt hg hs hx hn
      go_wp2_with (at_builtin; refine wpList_pushK rfl (.tmp 16) (.tmp 18) 33 rfl encT_len (by decide) encT_one w.heap.size 9 i0 (.string ⟨#[]⟩) 16 Tryz.u52 hi hz0 hz1 hz2 rfl (.slice va ks.length vc) ks x.n w3.heap.size rfl rfl H5.out O5.out Q5.out.1 Q5.out.2.1 Q5.out.2.2 ?_; intro v6 w6 hown hgr; have O6 := Lib.hid hown; have G6 := Lib.hid hgr; clear hown hgr)
      have R5 := R3.out.kept (below_grown B5.out none) (by simp) (by simp)
      have R6 := R5.1.kept G6.out (row_map O5.out R5.1.tm) (row_iter O5.out R5.1)
      have FIN := Lib.hid (show NI w w6 b w.heap.size l v6 (done ++ [x]) from ⟨R6.1, by rw [KY.out]; exact O6.out, (L3.out.trans (B5.out.mono L3.out.size)).grown G6.out (by have := L3.out.size; simp; omega) (fun k e => (O5.out.lt k e).1), Nat.le_refl _, ME.out⟩)
      have ML := Lib.hid (show w6.rangeLeft b w.heap.size < wr.rangeLeft b w.heap.size from by rw [R6.2, R5.2]; exact LT.out)
      clear R6 R5 b5 hen
      go_roundw
      case rel => exact ⟨done ++ [x], FIN⟩
      case measure => exact ML.out
theorem names_any (w : World) (B d : Nat) (s : DS) (h : DK w B d s) (hl : s.l.length < 100000) :
    Calls Tryz.prog 12 #[pv d] w fun e w' => ∃ v, e = .returned v ∧ w'.ownsRow w.heap.size 9 1 v (nms s.l).length ((nms s.l).flatMap encT) ∧ Below w.heap.size w w' := by
  rcases h.map with ⟨h0, h1⟩ | ⟨b, h0, hB, hb⟩
  · rw [h1]
    refine (names_none w B d s h h0).mono ?_
    rintro e w' ⟨rfl, hb⟩
    exact ⟨_, rfl, World.ownsRow_nil _ _ _ _, hb⟩
  · exact names_some w B d s h b h0 hb hl
end Go.Proofs.YtgbihpfpiaacfaaGreatDoor

