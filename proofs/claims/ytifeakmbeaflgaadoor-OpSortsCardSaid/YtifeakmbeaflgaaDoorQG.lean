/- slices.SortStableFunc at an own row of ops; slices.Clone; op.Sorted. Made by genqf7.py. -/
import Derived.Test.YtifeakmbeaflgaaDoorQF
set_option linter.unusedVariables false
set_option linter.unusedSimpArgs false
set_option maxRecDepth 100000
namespace Go.Proofs.YtifeakmbeaflgaaDoor
open Go.Shelf Go.RowKit Go.Lib Go.Sort

theorem cs9_flat : ∀ l : List O, cs9 l = l.flatMap oc
  | [] => rfl
  | x :: l => by show oc x ++ cs9 l = _; rw [cs9_flat l]; rfl
theorem stable_own (w : World) (B : Nat) (v : Value) (l : List O) (h : w.ownsRow B 25 9 v l.length (cs9 l)) (hl : l.length ≤ 79) :
    Calls Tryd.prog 84 #[v, .int .i64 (l.length : Int), .func (.func 16) #[] #[]] w fun e w' => e = .returned (.tuple #[]) ∧ w'.ownsRow B 25 9 v (srtO l).length (cs9 (srtO l)) ∧ w.grownBy w' v.ownBlock := by
  rcases h.2 with ⟨rfl, h0⟩ | ⟨g, cap, cur, rfl, hB, hb, h1, h2, h3, h4⟩
  · have hn : l = [] := List.eq_nil_of_length_eq_zero h0
    subst hn
    refine (stable_none lsO (.slice none 0 0) (.func (.func 16) #[] #[]) w).mono ?_
    rintro e w' ⟨rfl, rfl⟩
    exact ⟨rfl, h, World.grownBy.mk rfl rfl rfl (Nat.le_refl _) (fun _ _ _ => rfl)⟩
  · have eg : ∀ args w, (callFunc 16 args).run Tryd.prog w = .ok (.enter 16 args) w := enters_of Tryd.func16 (by kernel_rfl) rfl
    have hg : g < w.heap.size := lt_of_block hb
    rw [cs9_flat] at h4
    have hH := holdsK_block (enc := oc) oc_len (by omega) hb h4
    have R : RowK oc 9 w g 0 l.toArray := ⟨oc_len, oc_one, hH, hg⟩
    have hcon := stable_any lsO 9 Tryd.isAgg25 Tryd.sizeOf25 oc 16 g 0 cap l.toArray w R cfO eg (fun _ _ _ _ x y => compare_exact x y _) ltOk l.toArray w rfl (SWK.start hH) (by simpa using hl)
    rw [show l.toArray.size = l.length from by simp] at hcon
    refine hcon.mono ?_
    rintro e w' ⟨rfl, r, hk, hs, hS⟩
    obtain ⟨l', rfl⟩ : ∃ l' : List O, r = l'.toArray := ⟨r.toList, by simp⟩
    obtain rfl : l' = srtO l := srt_eq hk hs
    obtain ⟨m, os, rfl⟩ := hS
    have hlen := srtO_len l
    exact ⟨rfl, ⟨cs9_length _, .inr ⟨g, cap, _, by rw [hlen], hB, heapK _ hb, by omega, h2, by simp [putCells, h3], by rw [cs9_flat]; exact takeK oc_len (by omega) cur _ (by rw [h3, hlen]; exact Nat.mul_le_mul_right 9 h1)⟩⟩, grownK _⟩
set_option maxHeartbeats 1600000 in
theorem sort68 (w : World) (B : Nat) (v : Value) (l : List O) (h : w.ownsRow B 25 9 v l.length (cs9 l)) (hl : l.length ≤ 79) :
    Calls Tryd.prog 68 #[v, .func (.func 16) #[] #[]] w fun e w' => e = .returned (.tuple #[]) ∧ w'.ownsRow B 25 9 v (srtO l).length (cs9 (srtO l)) ∧ w.grownBy w' v.ownBlock := by
  have S := Lib.hid (stable_own w B v l h hl)
  obtain ⟨ra, rc, rfl⟩ := Wi.own_shape h
  clear h
  go_enter Tryd.func68, Tryd.ntmps68
  go_wp2_with fail
  refine S.out.mono ?_
  rintro e w1 ⟨rfl, ho, hg⟩
  go_wp2
  go_end0
  exact ⟨rfl, ho, hg⟩
theorem own_empty (w : World) (B : Nat) (e : TypeId) (k : Nat) (hB : B ≤ w.heap.size) : (w.alloc (.cells #[] e)).ownsRow B e k (.slice (some ⟨w.heap.size, 0, none⟩) 0 0) 0 [] :=
  ⟨by simp, .inr ⟨w.heap.size, 0, #[], rfl, hB, heap_alloc_new w _, Nat.le_refl _, Nat.zero_le _, by simp, by simp⟩⟩
set_option maxHeartbeats 1600000 in
theorem clone_ops (w : World) (v : Value) (l : List O) (h : OLies w v l) (hl : l.length ≤ 1000) :
    Calls Tryd.prog 67 #[v] w fun e w' => ∃ r, e = .returned r ∧ w'.ownsRow w.heap.size 25 9 r l.length (cs9 l) ∧ Below w.heap.size w w' := by
  obtain ⟨i0, hi, hz0, hz1, hz2⟩ := info_parts info25
  have H := Lib.hid h
  obtain ⟨ao, cap, rfl, hn, hmx, h0, hc⟩ := h
  clear hc
  cases ao with
  | none =>
    obtain ⟨rfl, rfl⟩ := h0 rfl
    have kc := fun W => Lib.run_eql_slice_nil (P := Tryd.prog) W 27 25 none 0 0 0 0 Tryd.u27
    go_enter Tryd.func67, Tryd.ntmps67
    go_wp2
    go_returns
    exact ⟨_, rfl, World.ownsRow_nil _ _ _ _, Below.refl _ _⟩
  | some b =>
    clear h0
    have kc := fun W => Lib.run_eql_slice_nil (P := Tryd.prog) W 27 25 (some b) l.length cap 0 0 Tryd.u27
    go_enter Tryd.func67, Tryd.ntmps67
    have hX := vstep w (.cells #[] 25)
    have HL := Lib.hid ((H.out.step hX).src)
    clear hX
    go_wp2_with (at_builtin; refine Wi.wpList_append_src_own rfl (.tmp 5) (.tmp 6) 27 27 rfl w.heap.size 25 i0 (oV O0) 9 80 Tryd.u27 hi hz0 hz1 hz2 rfl (by decide) _ 0 [] rfl (own_empty w _ 25 9 (Nat.le_refl _)) _ l.length (cs9 l) rfl HL.out (by unfold maxLen; omega) (by omega) (by simp) ?_; intro v1 w1 hown hgr hsp)
    go_returns
    rw [Nat.zero_add, List.nil_append] at hown
    exact ⟨_, rfl, hown, ((Below.refl w.heap.size w).alloc (Nat.le_refl _) (.cells #[] 25)).grown hgr (by simp) (fun k hk => by simp [Act.eval, Value.ownBlock] at hk; omega)⟩
set_option maxHeartbeats 1600000 in
theorem sorted_any (w : World) (v : Value) (l : List O) (h : OLies w v l) (hl : l.length ≤ 79) :
    Calls Tryd.prog 31 #[v] w fun e w' => ∃ r, e = .returned r ∧ OLies w' r (srtO l) ∧ Below w.heap.size w w' := by
  have C := Lib.hid (clone_ops w v l h (by omega))
  obtain ⟨ao, cap, rfl⟩ := h.shape
  clear h
  go_enter Tryd.func31, Tryd.ntmps31
  go_wp2_with fail
  refine C.out.mono ?_
  rintro e w1 ⟨r, rfl, ho, hb1⟩
  have S := Lib.hid (sort68 w1 _ _ l ho hl)
  have FIN := Lib.hid (fun (w2 : World) (ho2 : w2.ownsRow w.heap.size 25 9 r (srtO l).length (cs9 (srtO l))) (hg : w1.grownBy w2 r.ownBlock) => show OLies w2 r (srtO l) ∧ Below w.heap.size w w2 from
    ⟨own_olies ho2, hb1.grown hg hb1.size (fun k hk => (ho.lt k hk).1)⟩)
  obtain ⟨ra, rc, rfl⟩ := Wi.own_shape ho
  clear ho hb1 C
  go_wp2_with fail
  refine S.out.mono ?_
  rintro e w2 ⟨rfl, ho2, hg⟩
  have F2 := Lib.hid (FIN.out w2 ho2 hg)
  clear ho2 hg S
  go_wp2
  go_returns
  exact ⟨_, rfl, F2.out⟩
end Go.Proofs.YtifeakmbeaflgaaDoor
