/- Seal of both; Runs; the same bytes? -/
import Derived.Test.YtgbihpfpiaacfaaGreatDoorCSumC
set_option linter.unusedVariables false
namespace Go.Proofs.YtgbihpfpiaacfaaGreatDoor.Rc
open Go.RowKit

theorem le4_byt (s : Nat) : Byt (le4 s) := le4_lt s
set_option maxRecDepth 100000 in
set_option maxHeartbeats 800000 in
theorem seal_any (w : World) (v : Value) (bs : List Nat) (h : Lies w v bs) (hb : Byt bs) (hl : bs.length ≤ 200000) :
    Calls Tryz.prog 61 #[v] w fun e w' => ∃ r, e = .returned r ∧ RowOut w w' r (seal' bs) := by
  have H := Lib.hid h
  have HB := Lib.hid hb
  have hm := more_lt 0 bs
  have HO := Lib.hid (fun W => of_any W v bs)
  have HT := Lib.hid (fun W => told_any W (more 0 bs) hm)
  have HZ : Hid (∀ r, cats [(v, bs), (r, le4 (more 0 bs))] = seal' bs) := Lib.hid (fun r => by unfold cats seal'; simp)
  generalize more 0 bs = s at *
  obtain ⟨ao, cap, rfl, _⟩ := h
  clear hb
  go_enter Tryz.func61, Tryz.ntmps61
  go_wp2_with fail
  refine (HO.out _ H.out HB.out).mono ?_
  rintro e w1 ⟨rfl, hb1⟩
  have B1 := Lib.hid hb1
  clear hb1
  go_wp2_with fail
  refine (HT.out _).mono ?_
  rintro e w2 ⟨r, rfl, ho⟩
  have hB2 := B1.out.trans (ho.2.mono B1.out.size)
  have hL2 := own_lies ho.1
  have hL1 := H.out.later hB2
  obtain ⟨ra, rc, rfl⟩ := own_shape ho.1
  have KZ := HZ.out (.slice ra (le4 s).length rc)
  have KL := Lib.hid (show Byt bs ∧ Byt (le4 s) from ⟨HB.out, le4_byt s⟩)
  clear ho
  have B2 := Lib.hid hB2
  have hR : ∀ W3, Below w2.heap.size w2 W3 → W3.heap[w2.heap.size]? = some (.cells #[.slice ao bs.length cap, .slice ra (le4 s).length rc] 39 (0, 0)) → Rows2 W3 (.slice (some ⟨w2.heap.size, 0, none⟩) 2 2) [(.slice ao bs.length cap, bs), (.slice ra (le4 s).length rc, le4 s)] := by
    intro W3 hb3 hg
    refine ⟨some ⟨w2.heap.size, 0, none⟩, 2, rfl, (fun e => by cases e), fun b hb => ?_, fun p hp => ?_⟩
    · cases hb
      refine ⟨w2.heap.size, 0, rfl, (Array.getElem?_eq_some_iff.1 hg).1, fun j p hj => ?_⟩
      match j, hj with
      | 0, hj => rw [cell_of_row _ _ _ _ _ _ hg]; injection hj with hj; subst hj; rfl
      | 1, hj => rw [cell_of_row _ _ _ _ _ _ hg]; injection hj with hj; subst hj; rfl
      | j + 2, hj => simp at hj
    · rcases List.mem_cons.1 hp with rfl | hp
      · exact ⟨hL1.later hb3, KL.out.1⟩
      · rcases List.mem_cons.1 hp with rfl | hp
        · exact ⟨hL2.later hb3, KL.out.2⟩
        · cases hp
  have hC := concat_any (w2.alloc (.cells #[.slice ao bs.length cap, .slice ra (le4 s).length rc] 39)) _ _ (hR _ ((Below.refl _ _).alloc (Nat.le_refl _) _) (heap_alloc_new w2 _)) (by simp) (by
    rw [KZ, seal_length]; omega)
  rw [KZ] at hC
  have HC := Lib.hid hC
  have HX := Lib.hid ((B2.out.alloc B2.out.size (.cells #[.slice ao bs.length cap, .slice ra (le4 s).length rc] 39)))
  clear hC hR hL1 hL2 hB2 KZ
  go_wp2_with fail
  refine HC.out.mono ?_
  rintro e w3 ⟨r, rfl, ho⟩
  have HOut : RowOut w w3 r (seal' bs) := by
    refine ⟨?_, HX.out.trans (ho.2.mono HX.out.size)⟩
    have hle := HX.out.size
    rcases ho.1 with ⟨hlen, hrest⟩
    refine ⟨hlen, ?_⟩
    rcases hrest with h | ⟨g, cap, cur, e, hB, rest⟩
    · exact .inl h
    · exact .inr ⟨g, cap, cur, e, by omega, rest⟩
  obtain ⟨ra3, rc3, rfl⟩ := own_shape ho.1
  have HQ := Lib.hid HOut
  clear ho HOut
  go_wp2
  go_returns
  exact ⟨_, rfl, HQ.out⟩

end Go.Proofs.YtgbihpfpiaacfaaGreatDoor.Rc

