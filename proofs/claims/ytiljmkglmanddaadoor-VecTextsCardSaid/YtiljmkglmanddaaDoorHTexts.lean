/- VecTexts returns true for all lists of pairs, and any text. The row lists five tables of the library with what they hold; the card ties them to the program's text (the pruned copy that the seat's roots load). -/
import Derived.Test.YtiljmkglmanddaaDoorVCard
import Derived.Test.YtiljmkglmanddaaDoorLX
set_option linter.unusedVariables false
namespace Go.Proofs.YtiljmkglmanddaaDoor
open Go.ChangeShapes Go.WideShapes Go.ChangeAt Go.RowKit Go.Joins Go.Deep

theorem put_I63 {v : List Int} {p : Nat × Int} (hv : I63 v) (hp : p.2 ≤ 9223372036854775807) : I63 (putO v p) := fun j x hx => by
  unfold putO at hx
  rw [List.getElem?_set] at hx
  split at hx
  · split at hx
    · injection hx with hx; rw [← hx]; exact hp
    · cases hx
  · exact hv j x hx
theorem fold_I63 : ∀ (l : List (Nat × Int)) (v : List Int), I63 v → (∀ p ∈ l, p.2 ≤ 9223372036854775807) → I63 (l.foldl putO v)
  | [], v, hv, _ => hv
  | p :: r, v, hv, h => fold_I63 r _ (put_I63 hv (h p (List.mem_cons_self ..))) (fun q hq => h q (List.mem_cons_of_mem _ hq))
theorem made_I63 {l : List (Nat × Int)} (h : ∀ p ∈ l, p.2 ≤ 9223372036854775807) : I63 (madeF l) := by
  unfold madeF
  exact fold_I63 _ _ (fun j x hx => by rw [zs_lt hx]; omega) (fun p hp => h p (List.mem_of_mem_take hp))
section
variable {H : Type} {enc : TypeId × Value → H} {W : World}
set_option maxRecDepth 100000 in
theorem open_pair63 {base : Nat} {spare : Nat → Bool} {held : Bool} {fuel : Nat} {cs : List Value} {x : DataW H × List MemPlace} (h : DataW.trod enc Tryd.prog W base spare held fuel 59 cs = some x) :
    ∃ p : Nat × Int, (p.1 < 256 ∧ p.2 ≤ 9223372036854775807) ∧ cs = [.int .u8 (p.1 : Int), .int .i64 p.2] := by
  obtain ⟨xs, n, _, _, hlen, hxl, hf⟩ := DataW.trod_struct und59 h
  rw [c59] at hlen
  match cs, hlen with
  | [u0, u1], _ =>
    obtain ⟨g0, e0, o0, t0⟩ := field_at f59_0
    obtain ⟨g1, e1, o1, t1⟩ := field_at f59_1
    have k0 := hf 0 g0 e0
    have k1 := hf 1 g1 e1
    have hs : xs.length = 2 := by rw [hxl]; kernel_rfl
    rw [o0, t0, c5] at k0
    rw [o1, t1, c3] at k1
    rw [List.getElem?_eq_getElem (by omega)] at k0 k1
    obtain ⟨a, ha, _, wa⟩ := DataW.trod_int Tryd.und5 k0
    obtain ⟨b, hb, _, wb⟩ := DataW.trod_int Tryd.underlying3 k1
    simp at ha hb
    subst ha; subst hb
    have hr : 0 ≤ a ∧ a < 256 := by
      have h := wa
      simp [Lit.wf, IntKind.min, IntKind.max, IntKind.bits, IntKind.signed] at h
      omega
    have hr2 : b ≤ 9223372036854775807 := by
      have h := wb
      simp [Lit.wf, IntKind.min, IntKind.max, IntKind.bits, IntKind.signed] at h
      omega
    exact ⟨(a.toNat, b), ⟨by show a.toNat < 256; omega, hr2⟩, by show _ = [Value.int .u8 (a.toNat : Int), Value.int .i64 b]; rw [Int.toNat_of_nonneg hr.1]⟩
set_option maxRecDepth 100000 in
theorem view_pairs63 {v : Value} {d : DataW H} {ps : List MemPlace} {b0 : Nat} {r : Reach} (hv : Value.okWide Tryd.prog W r b0 22 v) (h : DataW.Trod enc Tryd.prog W 0 (fun _ => true) true 22 v d ps) :
    ∃ l, LiesO W v l ∧ ∀ p ∈ l, p.2 ≤ 9223372036854775807 := by
  obtain ⟨a0, len, cap, rfl⟩ := okWide_slice Tryd.u22 hv
  obtain ⟨fuel, hf⟩ := h
  rcases open_slice Tryd.u22 hf with ⟨hcs, hx⟩ | ⟨a, len', cap', m, n, D, Pl, hcs, _, hl, hm, hmm, hx, hel⟩
  · simp [Value.cells] at hcs
    obtain ⟨rfl, rfl, rfl⟩ := hcs
    exact ⟨[], ⟨none, 0, rfl, by simp, fun _ => rfl, fun b hb => by cases hb⟩, fun p hp => by cases hp⟩
  · simp [Value.cells] at hcs
    obtain ⟨rfl, rfl, rfl⟩ := hcs
    simp only [if_true] at hmm
    subst hmm
    have each : ∀ i, i < len → ∃ p : Nat × Int, (p.1 < 256 ∧ p.2 ≤ 9223372036854775807) ∧ W.cell? (a.add (i * 2)) = some (.int .u8 (p.1 : Int)) ∧ W.cell? (a.add (i * 2 + 1)) = some (.int .i64 p.2) := by
      intro i hi
      obtain ⟨cs', hc, ht⟩ := hel i (by omega)
      obtain ⟨p, hp, hcs⟩ := open_pair63 ht
      rw [c59] at hc
      obtain ⟨_, hcl, hat⟩ := World.cells?_some hc
      refine ⟨p, hp, ?_, ?_⟩
      · have := hat 0 (by omega)
        rw [add_add', hcs] at this
        exact this
      · have := hat 1 (by omega)
        rw [add_add', hcs] at this
        exact this
    obtain ⟨f, hf2⟩ := choose_lt' each
    have hlen : ((List.range len).map f).length = len := by simp
    refine ⟨(List.range len).map f, ⟨some a, _, by rw [hlen], by rw [hlen]; unfold maxLen at hm; omega, (fun e => by cases e), fun b hb hne => ?_⟩, fun p hp => ?_⟩
    rotate_left 1
    · obtain ⟨i, hi, rfl⟩ := List.mem_map.1 hp
      exact (hf2 i (List.mem_range.1 hi)).1.2
    cases hb
    have hpos : 0 < len := by
      rcases Nat.eq_zero_or_pos len with h0 | h0
      · subst h0; exact absurd rfl hne
      · exact h0
    obtain ⟨g, off, spot⟩ := a
    have h00 := (hf2 0 hpos).2.1
    have hspot : spot = none := by simpa [Addr.add] using World.cell?_spot h00
    subst hspot
    have hgl : g < W.heap.size := by simpa [Addr.add_lit] using World.block_lt_of_cell? W _ h00
    refine ⟨g, off, rfl, hgl, fun i p hp => ?_⟩
    have hil : i < len := by
      have := (List.getElem?_eq_some_iff.1 hp).1
      rwa [hlen] at this
    have hfp : f i = p := by simpa [hil] using hp
    have q := hf2 i hil
    rw [hfp, add_addr, add_addr] at q
    rw [Nat.add_assoc]
    exact ⟨q.1.1, q.2⟩
end
set_option maxRecDepth 100000 in
theorem vecTexts_lifted (os : Os) (started : os.Started) (H : Type) (enc : TypeId × Value → H) :
    ReturnsInHanded {} Tryd.checked os 5 .any (fun w args => (Rows.vecTextsSpec.pre enc Tryd.prog Tryd.f5 [] false w args ∧ laidMetH Tryd.prog laid5 w) ∧ sizedMet enc Tryd.prog Tryd.f5 (OpenSpec.ofChange Rows.vecTextsSpec) false w args)
      (Rows.vecTextsSpec.post enc Tryd.prog Tryd.f5 false true false false) := by
  refine handed_both (C := Tryd.checked) (X := fun w _ => laidMetH Tryd.prog laid5 w) (fun _ _ _ hh h => h.of_heap hh) Tryd.own started (by kernel_rfl) Tryd.func5
    (ChangeSpec.witness_shaped (enc := enc) (C := Tryd.checked) (os := os) (X := fun w _ => laidMetH Tryd.prog laid5 w) false (World.laidAll Tryd.prog os laid5) #[.slice none 0 0, .string ⟨#[]⟩] 8 (World.laidAll_os _ _ _)
      (World.shaped_of_ZipB (by kernel_rfl) (by kernel_rfl)) (by kernel_rfl) (by kernel_rfl) (by kernel_rfl)
      (by rw [MakeChecks.laidMetH_plain _ _ _ (by kernel_rfl)]; exact laidMet_laidAll _ (by kernel_rfl) (by kernel_rfl))) ?_
  intro W base args ds gs before hval0 hW hL hsh
  have hval : ∀ (j : Nat) t v, Tryd.f5.params[j]? = some t → args[j]? = some v → Value.okWide Tryd.prog W .any base t v := hval0
  have hW' := hW
  obtain ⟨p, q, hA0, hV, rfl, hfz, hnd⟩ := hW
  have hA : DataW.TrodAll enc Tryd.prog W 0 (fun _ => true) true Tryd.f5.params.toList args.toList ds p := hA0
  rw [Tryd.params5] at hA hval
  obtain ⟨v0, v1, d0, d1, p0, p1, rfl, rfl, rfl, h0, h1⟩ := trodAll_two hA
  obtain ⟨rfl, rfl⟩ := trodVars_none hV
  obtain ⟨l0, hl0, hb0⟩ := view_pairs63 (hval 0 22 v0 rfl rfl) h0
  obtain ⟨s, rfl, rfl, rfl, ws⟩ := Go.ChangeMaps.open_string Tryd.underlying9 (hval 1 9 v1 rfl rfl) h1
  obtain ⟨m, hm⟩ := most_of_shape hsh
  clear hA0 hval0
  simp only [List.append_nil] at hW'
  have hs2 : s.size ≤ 9223372036854775807 := by have h := ws; unfold maxLen at h; omega
  have hlt : ∀ x ∈ p0 ++ [], x.block < W.heap.size := fun x hx => by simpa using hW'.lt x (by simpa using hx)
  refine (texts_law W v0 l0 s hl0 (made_I63 hb0) hs2 m hm (tab_of_laid hL)).mono fun e W' ⟨he, hb⟩ => ?_
  subst he
  have k0 := Below.trod Tryd.laidOut (by kernel_rfl) (of_decide_eq_true (by kernel_rfl)) h0 hb (fun x hx => hlt x (by simp [hx]))
  have k1 := Below.trod Tryd.laidOut (by kernel_rfl) (of_decide_eq_true (by kernel_rfl)) h1 hb (fun x hx => by cases hx)
  exact ⟨_, rfl, post_read hW' hb (trodAll_mk2 k0 k1) rfl (trodAll_mk1 (shut_bool Tryd.underlying4 _))⟩

theorem vecTexts_row : Rows.VecTextsSaid :=
  OpenClaim.holds_of_wide 5 Tryd.f5 rfl rfl rfl rfl rfl rfl rfl ⟨rfl, rfl, rfl, rfl, rfl⟩ rfl rfl rfl rfl rfl (by kernel_rfl) Tryd.func5 (by kernel_rfl)
    (of_decide_eq_true (by kernel_rfl)) (by unfold Func.isWrapper; first | (rw [if_pos (by decide +kernel)]; kernel_rfl) | (rw [if_neg (by decide +kernel)]; exact ⟨rfl, rfl⟩))
    (fun os started H enc _ => vecTexts_lifted os started H enc)

theorem vecTexts_card : Rows.VecTextsCardSaid :=
  Claim7.holds_tied_plain_at .later [] [.data, .data, .data, .data, .pinned] true (true, "625e20affd4bf9a409ccbc550a2ce81c43cd437ebbffcb8e90540d7201ea4b47") false
    vecTexts_row (fun _ h => by cases h) (by kernel_rfl) (fun _ h => by cases h) vecTexts_row_tie rfl ⟨rfl, rfl⟩ (by kernel_rfl) rfl
    (fun f fn hf hfn => by
      obtain rfl : f = 5 := Option.some.inj ((show Tryd.prog.funcNamed "banyan/banyanlaw04.VecTexts" = some 5 by kernel_rfl).symm.trans hf) |>.symm
      obtain rfl : fn = Tryd.f5 := (Option.some.inj (Tryd.func5.symm.trans hfn)).symm
      exact ⟨by kernel_rfl, fun j t ht => by
        rw [Tryd.params5] at ht
        have hm : t ∈ [22, 9] := by simpa using Array.mem_of_getElem? ht
        have hall : ([22, 9].all fun u => !Tryd.prog.wantsStandIn u) = true := by kernel_rfl
        exact (show Tryd.prog.wantsStandIn t = false by simpa using List.all_eq_true.1 hall t hm)⟩)
    (by kernel_rfl)
end Go.Proofs.YtiljmkglmanddaaDoor
