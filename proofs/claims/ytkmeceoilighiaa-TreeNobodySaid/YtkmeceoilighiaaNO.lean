/- TreeNobody, walked. Made by genno14.py. -/
import Derived.Test.YtkmeceoilighiaaNB
import Derived.Test.YtkmeceoilighiaaEW
set_option linter.unusedVariables false
set_option linter.unusedSimpArgs false
set_option maxRecDepth 100000
namespace Go.Proofs.Ytkmeceoilighiaa
open Go.RowKit Go.Shelf
open Tb (Rw setF dropF getF aboveF Rise TabI TM LiesK)

theorem run_box0 (W : World) : (Instr.box 79 (.agg #[.pointer none, .int .i64 0, .int .i64 0, .slice none 0 0])).run Try.prog W = .ok (.pointer (some ⟨W.heap.size, 0, none⟩)) (W.alloc (.cells #[.pointer none, .int .i64 0, .int .i64 0, .slice none 0 0] 79)) := box79 W none 0 0
theorem len_nil (w : World) (p b : Nat) (h : TabI w p b []) : Calls Try.prog 40 #[.pointer (some ⟨p, 0, none⟩)] w fun e w' => e = .returned (.int .i64 0) ∧ w = w' := Tb.len_any w p b [] h
theorem len_zero (w : World) (X : Value) (H : Have w X none 0 0 none 0 0) : Calls Try.prog 17 #[X] w fun e w' => e = .returned (.int .i64 0) ∧ Below w.heap.size w w' := len_of w X none 0 0 none 0 0 H
theorem did_nil (w : World) (X : Value) (H : Have w X none 0 0 none 0 0) (t r : Int) : Calls Try.prog 19 #[X, .agg #[.int .i64 t, .int .i64 r]] w fun e w' => e = .returned (.bool false) ∧ Below w.heap.size w w' := did_of w X none 0 0 none 0 0 [] t r H (LiesK.nil _) List.Pairwise.nil (by simp)
theorem ops_nil (w : World) (X : Value) (H : Have w X none 0 0 none 0 0) : Calls Try.prog 27 #[X] w fun e w' => ∃ a c, e = .returned (.slice a 0 c) ∧ Below w.heap.size w w' := (ops_of w X none 0 0 none 0 0 [] H (LiesK.nil _) (by simp)).mono (by
  rintro e w' ⟨v, rfl, ho, hb⟩
  obtain ⟨a, c, rfl⟩ := Tb.own_shapeK ho
  exact ⟨a, c, rfl, hb⟩)
set_option maxHeartbeats 6400000 in
theorem nobody_any (w : World) (t r q nt nr pt pr : Int) (nm : ByteArray) (d : Bool) (hnt : Tb.I64 nt) (hnr : Tb.I64 nr) :
    Calls Try.prog 7 #[.agg #[.int .i64 t, .int .i64 r, .int .i64 q, .int .i64 nt, .int .i64 nr, .int .i64 pt, .int .i64 pr, .string nm, .bool d]] w fun e w' => e = .returned (.bool true) ∧ Below w.heap.size w w' := by
  have K0 := Lib.hid (NT.new w t r q nt nr pt pr nm d)
  have AW := Lib.hid (fun W => awake_any W)
  go_enter Try.func7, Try.ntmps7
  go_upto_region 3 with (fail)
  generalize (((w.alloc (.cells #[.int .i64 t, .int .i64 r, .int .i64 q, .int .i64 nt, .int .i64 nr, .int .i64 pt, .int .i64 pr, .string nm, .bool d] 34)).alloc (.cells #[.pointer none, .int .i64 0, .int .i64 0, .slice none 0 0] 79)).alloc (.cells #[.pointer none, .pointer (some ⟨w.heap.size + 1, 0, none⟩)] 27)) = w0 at K0 ⊢
  go_wp2_with fail
  go_loopw [5] (fun iv wr => ∃ i : Nat, iv = .int .i64 i ∧ i ≤ 2 ∧ Hid (NT w wr t r q nt nr pt pr nm d)) (fun iv _ => 2 - (intOf iv).toNat)
  case atStart => exact ⟨0, rfl, by omega, K0⟩
  case round =>
    obtain ⟨i, rfl, hi, K⟩ := hrel
    by_cases hlt : i < 2
    · have hi0 : (0 : Int) ≤ (i : Int) := by omega
      have hi1 : (i : Int) < 2 := by omega
      have hd : decide ((i : Int) < 2) = true := decide_eq_true hi1
      have HLT := Lib.hid hlt
      obtain ⟨X, hX, hDX, u, rfl⟩ := K.out.at hlt
      have DX := Lib.hid hDX
      have AD := Lib.hid (add_dead wr _ hDX t r q nt nr pt pr nm d)
      have c : ∀ (j : Nat) (v : Value), ((#[.int .i64 t, .int .i64 r, .int .i64 q, .int .i64 nt, .int .i64 nr, .int .i64 pt, .int .i64 pr, .string nm, .bool d] : Array Value))[j]? = some v → wr.cell? ⟨w.heap.size, j, none⟩ = some v := fun j v hv => (cell_of_row _ _ _ _ _ _ K.out.op).trans hv
      have d0 := c 0 (.int .i64 t) rfl; have d1 := c 1 (.int .i64 r) rfl; have d2 := c 2 (.int .i64 q) rfl; have d3 := c 3 (.int .i64 nt) rfl; have d4 := c 4 (.int .i64 nr) rfl
      have d5 := c 5 (.int .i64 pt) rfl; have d6 := c 6 (.int .i64 pr) rfl; have d7 := c 7 (.string nm) rfl; have d8 := c 8 (.bool d) rfl
      clear c hDX
      go_wp2_with fail
      refine AD.out.mono ?_
      rintro e w1 ⟨rfl, hb⟩
      have K1 := Lib.hid (K.out.step hb)
      have D1 := Lib.hid (DX.out.step hb)
      clear hb d0 d1 d2 d3 d4 d5 d6 d7 d8 hX
      have c : ∀ (j : Nat) (v : Value), ((#[.int .i64 t, .int .i64 r, .int .i64 q, .int .i64 nt, .int .i64 nr, .int .i64 pt, .int .i64 pr, .string nm, .bool d] : Array Value))[j]? = some v → w1.cell? ⟨w.heap.size, j, none⟩ = some v := fun j v hv => (cell_of_row _ _ _ _ _ _ K1.out.op).trans hv
      have d3 := c 3 (.int .i64 nt) rfl; have d4 := c 4 (.int .i64 nr) rfl
      have GT := Lib.hid (get_of w1 (.pointer u) none 0 0 none 0 0 nt nr 0 0 ⟨#[]⟩ false false D1.out.have (fun W _ => Tb.get_dead W (.pointer none) (.inl rfl) nt nr))
      clear c
      go_wp2_with fail
      refine GT.out.mono ?_
      rintro e w2 ⟨rfl, hb⟩
      have K2 := Lib.hid ((K1.out.step hb).step (pl_vstep w2 (.cells #[.int .i64 0, .int .i64 0, .string ⟨#[]⟩, .bool false] 69)))
      have D2 := Lib.hid ((D1.out.step hb).step (pl_vstep w2 (.cells #[.int .i64 0, .int .i64 0, .string ⟨#[]⟩, .bool false] 69)))
      clear hb d3 d4
      go_upto_region 9 with (fail)
      generalize w2.alloc (.cells #[.int .i64 0, .int .i64 0, .string ⟨#[]⟩, .bool false] 69) = w3 at K2 D2 ⊢
      have LA := Lib.hid (fun W (hb : Below w3.heap.size w3 W) => (K2.out.step hb).ldT.1)
      have LB := Lib.hid (fun W (hb : Below w3.heap.size w3 W) => (K2.out.step hb).ldT.2.1)
      have LC := Lib.hid (fun W (hb : Below w3.heap.size w3 W) => (K2.out.step hb).ldT.2.2)
      have HV := Lib.hid (fun W (hb : Below w3.heap.size w3 W) => (D2.out.step hb).have)
      have hw0 : IntKind.i64.wrap 0 = 0 := rfl
      have CU := Lib.hid (fun W (hb : Below w3.heap.size w3 W) => cut_dead W _ (D2.out.step hb) t r)
      refine wp_region_held_drew (S := fun w' => Below w3.heap.size w3 w') (by kernel_rfl) (Below.refl _ _).drew (fun hHeld => ?_)
      have BV := Lib.hid (show Below w3.heap.size w3 w3.drew from (Below.refl _ _).drew)
      clear hHeld
      refine take_at (i := 0) 38 ?_ rfl rfl (by kernel_rfl) (by kernel_rfl) (by kernel_rfl) (fun _ _ _ h => h) (.inl ⟨rfl, ?_⟩) BV.out ?_
      rotate_left 1
      · intro w hSw; go_simp; try with_reducible rfl
      simp only [Act.put, List.setIfInBounds_toArray, List.set_cons_zero, List.set_cons_succ]
      refine take_at (i := 1) 39 ?_ rfl rfl (by kernel_rfl) (by kernel_rfl) (by kernel_rfl) (fun _ _ _ h => h) (.inl ⟨rfl, ?_⟩) BV.out ?_
      rotate_left 1
      · intro w hSw; go_simp; try with_reducible rfl
      simp only [Act.put, List.setIfInBounds_toArray, List.set_cons_zero, List.set_cons_succ]
      refine take_at (i := 2) 40 ?_ rfl rfl (by kernel_rfl) (by kernel_rfl) (by kernel_rfl) (fun _ _ _ h => h) (.inl ⟨rfl, ?_⟩) BV.out ?_
      rotate_left 1
      · intro w hSw; go_simp; try with_reducible rfl
      simp only [Act.put, List.setIfInBounds_toArray, List.set_cons_zero, List.set_cons_succ]
      refine take_at (i := 3) 41 ?_ rfl rfl (by kernel_rfl) (by kernel_rfl) (by kernel_rfl) (fun _ _ _ h => h) (.inl ⟨rfl, ?_⟩) BV.out ?_
      rotate_left 1
      · intro w hSw; go_simp; try with_reducible rfl
      simp only [Act.put, List.setIfInBounds_toArray, List.set_cons_zero, List.set_cons_succ]
      refine take_at (i := 4) 42 ?_ rfl rfl (by kernel_rfl) (by kernel_rfl) (by kernel_rfl) (fun _ _ _ h => h) (.inl ⟨rfl, ?_⟩) BV.out ?_
      rotate_left 1
      · intro w hSw; go_simp; try with_reducible rfl
      simp only [Act.put, List.setIfInBounds_toArray, List.set_cons_zero, List.set_cons_succ]
      refine take_at (i := 5) 43 ?_ rfl rfl (by kernel_rfl) (by kernel_rfl) (by kernel_rfl) (fun _ _ _ h => h) (.inl ⟨rfl, ?_⟩) BV.out ?_
      rotate_left 1
      · intro w hSw; go_simp; try with_reducible rfl
      simp only [Act.put, List.setIfInBounds_toArray, List.set_cons_zero, List.set_cons_succ]
      refine take_at (i := 6) 44 ?_ rfl rfl (by kernel_rfl) (by kernel_rfl) (by kernel_rfl) (fun _ _ _ h => h) (.inl ⟨rfl, ?_⟩) BV.out ?_
      rotate_left 1
      · intro w hSw; go_simp; try with_reducible rfl
      simp only [Act.put, List.setIfInBounds_toArray, List.set_cons_zero, List.set_cons_succ]
      refine take_at (i := 7) 45 ?_ rfl rfl (by kernel_rfl) (by kernel_rfl) (by kernel_rfl) (fun _ _ _ h => h) (.inl ⟨rfl, ?_⟩) BV.out ?_
      rotate_left 1
      · intro w hSw; go_simp; try with_reducible rfl
      simp only [Act.put, List.setIfInBounds_toArray, List.set_cons_zero, List.set_cons_succ]
      refine take_at (i := 8) 46 ?_ rfl rfl (by kernel_rfl) (by kernel_rfl) (by kernel_rfl) (fun _ _ _ h => h) (.inl ⟨rfl, ?_⟩) BV.out ?_
      rotate_left 1
      · intro w hSw; go_simp; try with_reducible rfl
      simp only [Act.put, List.setIfInBounds_toArray, List.set_cons_zero, List.set_cons_succ]
      refine take_at (i := 9) 47 ?_ rfl rfl (by kernel_rfl) (by kernel_rfl) (by kernel_rfl) (fun _ _ _ h => h) (.inl ⟨rfl, ?_⟩) BV.out ?_
      rotate_left 1
      · intro w hSw; go_simp; try with_reducible rfl
      simp only [Act.put, List.setIfInBounds_toArray, List.set_cons_zero, List.set_cons_succ]
      refine take_at (i := 10) 48 ?_ rfl rfl (by kernel_rfl) (by kernel_rfl) (by kernel_rfl) (fun _ _ _ h => h) (.inl ⟨rfl, ?_⟩) BV.out ?_
      rotate_left 1
      · intro w hSw; go_simp; try with_reducible rfl
      simp only [Act.put, List.setIfInBounds_toArray, List.set_cons_zero, List.set_cons_succ]
      refine take_at (i := 12) 50 ?_ rfl rfl (by kernel_rfl) (by kernel_rfl) (by kernel_rfl) (fun _ _ _ h => h) (.inl ⟨rfl, ?_⟩) BV.out ?_
      rotate_left 1
      · intro w hSw; go_simp; try with_reducible rfl
      simp only [Act.put, List.setIfInBounds_toArray, List.set_cons_zero, List.set_cons_succ]
      refine take_at (i := 15) 53 ?_ rfl rfl (by kernel_rfl) (by kernel_rfl) (by kernel_rfl) (fun _ _ _ h => h) (.inl ⟨rfl, ?_⟩) BV.out ?_
      rotate_left 1
      · intro w hSw; go_simp; try with_reducible rfl
      simp only [Act.put, List.setIfInBounds_toArray, List.set_cons_zero, List.set_cons_succ]
      refine take_at (i := 19) 57 ?_ rfl rfl (by kernel_rfl) (by kernel_rfl) (by kernel_rfl) (fun _ _ _ h => h) (.inl ⟨rfl, ?_⟩) BV.out ?_
      rotate_left 1
      · intro w hSw; go_simp; try with_reducible rfl
      simp only [Act.put, List.setIfInBounds_toArray, List.set_cons_zero, List.set_cons_succ]
      refine take_at (i := 20) 58 ?_ rfl rfl (by kernel_rfl) (by kernel_rfl) (by kernel_rfl) (fun _ _ _ h => h) (.inl ⟨rfl, ?_⟩) BV.out ?_
      rotate_left 1
      · intro w hSw; go_simp; try with_reducible rfl
      simp only [Act.put, List.setIfInBounds_toArray, List.set_cons_zero, List.set_cons_succ]
      refine take_at (i := 21) 59 (.agg #[.int .i64 pt, .int .i64 pr]) rfl rfl (by kernel_rfl) (by kernel_rfl) (by kernel_rfl) (fun _ _ _ h => h) (yields_ld (.tmp 58) 24 (.pointer (some ⟨w.heap.size, 5, none⟩)) _ LC.out rfl rfl rfl) BV.out ?_
      simp only [Act.put, List.setIfInBounds_toArray, List.set_cons_zero, List.set_cons_succ]
      refine wpAnyH_ready (rs := [11]) (by kernel_rfl) (by simp) (br_call (i := 11) 49 17 #[.pointer u] rfl rfl rfl (by go_simp) ((len_zero _ _ (HV.out _ BV.out)).mono ?_) AllReadyH.nil)
      rintro e v1 ⟨rfl, hb⟩
      have BV := Lib.hid (BV.out.trans (hb.mono BV.out.size))
      clear hb
      refine ⟨_, rfl, BV.out, fun _ => ?_⟩
      simp only [Act.put, List.setIfInBounds_toArray, List.set_cons_zero, List.set_cons_succ]
      refine wpAnyH_ready (rs := [13]) (by kernel_rfl) (by simp) (br_call (i := 13) 51 33 #[.pointer u] rfl rfl rfl (by go_simp) ((nodes_of _ _ none 0 0 none 0 0 0 (HV.out _ BV.out) (fun W _ => Tb.len_dead W (.pointer none) (.inl rfl))).mono ?_) AllReadyH.nil)
      rintro e v2 ⟨rfl, hb⟩
      have BV := Lib.hid (BV.out.trans (hb.mono BV.out.size))
      clear hb
      refine ⟨_, rfl, BV.out, fun _ => ?_⟩
      simp only [Act.put, List.setIfInBounds_toArray, List.set_cons_zero, List.set_cons_succ]
      refine take_at (i := 14) 52 ?_ rfl rfl (by kernel_rfl) (by kernel_rfl) (by kernel_rfl) (fun _ _ _ h => h) (.inl ⟨rfl, ?_⟩) BV.out ?_
      rotate_left 1
      · intro w hSw; go_simp; try with_reducible rfl
      simp only [Act.put, List.setIfInBounds_toArray, List.set_cons_zero, List.set_cons_succ]
      refine wpAnyH_ready (rs := [16]) (by kernel_rfl) (by simp) (br_call (i := 16) 54 27 #[.pointer u] rfl rfl rfl (by go_simp) ((ops_nil _ _ (HV.out _ BV.out)).mono ?_) AllReadyH.nil)
      rintro e v3 ⟨oa, oc, rfl, hb⟩
      have BV := Lib.hid (BV.out.trans (hb.mono BV.out.size))
      clear hb
      refine ⟨_, rfl, BV.out, fun _ => ?_⟩
      simp only [Act.put, List.setIfInBounds_toArray, List.set_cons_zero, List.set_cons_succ]
      refine take_at (i := 17) 55 ?_ rfl rfl (by kernel_rfl) (by kernel_rfl) (by kernel_rfl) (fun _ _ _ h => h) (.inl ⟨rfl, ?_⟩) BV.out ?_
      rotate_left 1
      · intro w hSw; go_simp; try with_reducible rfl
      simp only [Act.put, List.setIfInBounds_toArray, List.set_cons_zero, List.set_cons_succ]
      refine take_at (i := 18) 56 ?_ rfl rfl (by kernel_rfl) (by kernel_rfl) (by kernel_rfl) (fun _ _ _ h => h) (.inl ⟨rfl, ?_⟩) BV.out ?_
      rotate_left 1
      · intro w hSw; go_simp; try with_reducible rfl
      simp only [Act.put, List.setIfInBounds_toArray, List.set_cons_zero, List.set_cons_succ]
      refine wpAnyH_ready (rs := [22]) (by kernel_rfl) (by simp) (br_call (i := 22) 60 22 #[.pointer u, .agg #[.int .i64 pt, .int .i64 pr]] rfl rfl rfl (by go_simp) ((kids_of _ _ none 0 0 none 0 0 pt pr (fun _ v => v = .slice none 0 0) (HV.out _ BV.out) (fun W _ => (Tb.kids_dead W (.pointer none) (.inl rfl) pt pr).mono (by rintro e w' ⟨rfl, hb⟩; exact ⟨_, rfl, rfl, hb⟩))).mono ?_) AllReadyH.nil)
      rintro e v4 ⟨_, rfl, rfl, hb⟩
      have BV := Lib.hid (BV.out.trans (hb.mono BV.out.size))
      clear hb
      refine ⟨_, rfl, BV.out, fun _ => ?_⟩
      simp only [Act.put, List.setIfInBounds_toArray, List.set_cons_zero, List.set_cons_succ]
      refine take_at (i := 23) 61 ?_ rfl rfl (by kernel_rfl) (by kernel_rfl) (by kernel_rfl) (fun _ _ _ h => h) (.inl ⟨rfl, ?_⟩) BV.out ?_
      rotate_left 1
      · intro w hSw; go_simp; try with_reducible rfl
      simp only [Act.put, List.setIfInBounds_toArray, List.set_cons_zero, List.set_cons_succ]
      refine take_at (i := 24) 62 ?_ rfl rfl (by kernel_rfl) (by kernel_rfl) (by kernel_rfl) (fun _ _ _ h => h) (.inl ⟨rfl, ?_⟩) BV.out ?_
      rotate_left 1
      · intro w hSw; go_simp; try with_reducible rfl
      simp only [Act.put, List.setIfInBounds_toArray, List.set_cons_zero, List.set_cons_succ]
      refine take_at (i := 25) 63 ?_ rfl rfl (by kernel_rfl) (by kernel_rfl) (by kernel_rfl) (fun _ _ _ h => h) (.inl ⟨rfl, ?_⟩) BV.out ?_
      rotate_left 1
      · intro w hSw; go_simp; try with_reducible rfl
      simp only [Act.put, List.setIfInBounds_toArray, List.set_cons_zero, List.set_cons_succ]
      refine take_at (i := 26) 64 ?_ rfl rfl (by kernel_rfl) (by kernel_rfl) (by kernel_rfl) (fun _ _ _ h => h) (.inl ⟨rfl, ?_⟩) BV.out ?_
      rotate_left 1
      · intro w hSw; go_simp; try with_reducible rfl
      simp only [Act.put, List.setIfInBounds_toArray, List.set_cons_zero, List.set_cons_succ]
      refine take_at (i := 27) 65 ?_ rfl rfl (by kernel_rfl) (by kernel_rfl) (by kernel_rfl) (fun _ _ _ h => h) (.inl ⟨rfl, ?_⟩) BV.out ?_
      rotate_left 1
      · intro w hSw; go_simp; try with_reducible rfl
      simp only [Act.put, List.setIfInBounds_toArray, List.set_cons_zero, List.set_cons_succ]
      refine take_at (i := 28) 66 ?_ rfl rfl (by kernel_rfl) (by kernel_rfl) (by kernel_rfl) (fun _ _ _ h => h) (.inl ⟨rfl, ?_⟩) BV.out ?_
      rotate_left 1
      · intro w hSw; go_simp; try with_reducible rfl
      simp only [Act.put, List.setIfInBounds_toArray, List.set_cons_zero, List.set_cons_succ]
      refine take_at (i := 29) 67 ?_ rfl rfl (by kernel_rfl) (by kernel_rfl) (by kernel_rfl) (fun _ _ _ h => h) (.inl ⟨rfl, ?_⟩) BV.out ?_
      rotate_left 1
      · intro w hSw; go_simp; try with_reducible rfl
      simp only [Act.put, List.setIfInBounds_toArray, List.set_cons_zero, List.set_cons_succ]
      refine take_at (i := 30) 68 (.agg #[.int .i64 t, .int .i64 r]) rfl rfl (by kernel_rfl) (by kernel_rfl) (by kernel_rfl) (fun _ _ _ h => h) (yields_ld (.tmp 67) 24 (.pointer (some ⟨w.heap.size, 0, none⟩)) _ LA.out rfl rfl rfl) BV.out ?_
      simp only [Act.put, List.setIfInBounds_toArray, List.set_cons_zero, List.set_cons_succ]
      refine wpAnyH_ready (rs := [31]) (by kernel_rfl) (by simp) (br_call (i := 31) 69 19 #[.pointer u, .agg #[.int .i64 t, .int .i64 r]] rfl rfl rfl (by go_simp) ((did_nil _ _ (HV.out _ BV.out) t r).mono ?_) AllReadyH.nil)
      rintro e v5 ⟨rfl, hb⟩
      have BV := Lib.hid (BV.out.trans (hb.mono BV.out.size))
      clear hb
      refine ⟨_, rfl, BV.out, fun _ => ?_⟩
      simp only [Act.put, List.setIfInBounds_toArray, List.set_cons_zero, List.set_cons_succ]
      refine take_at (i := 32) 70 ?_ rfl rfl (by kernel_rfl) (by kernel_rfl) (by kernel_rfl) (fun _ _ _ h => h) (.inl ⟨rfl, ?_⟩) BV.out ?_
      rotate_left 1
      · intro w hSw; go_simp; try with_reducible rfl
      simp only [Act.put, List.setIfInBounds_toArray, List.set_cons_zero, List.set_cons_succ]
      refine take_at (i := 33) 71 ?_ rfl rfl (by kernel_rfl) (by kernel_rfl) (by kernel_rfl) (fun _ _ _ h => h) (.inl ⟨rfl, ?_⟩) BV.out ?_
      rotate_left 1
      · intro w hSw; go_simp; try with_reducible rfl
      simp only [Act.put, List.setIfInBounds_toArray, List.set_cons_zero, List.set_cons_succ]
      refine take_at (i := 34) 72 ?_ rfl rfl (by kernel_rfl) (by kernel_rfl) (by kernel_rfl) (fun _ _ _ h => h) (.inl ⟨rfl, ?_⟩) BV.out ?_
      rotate_left 1
      · intro w hSw; go_simp; try with_reducible rfl
      simp only [Act.put, List.setIfInBounds_toArray, List.set_cons_zero, List.set_cons_succ]
      refine take_at (i := 35) 73 ?_ rfl rfl (by kernel_rfl) (by kernel_rfl) (by kernel_rfl) (fun _ _ _ h => h) (.inl ⟨rfl, ?_⟩) BV.out ?_
      rotate_left 1
      · intro w hSw; go_simp; try with_reducible rfl
      simp only [Act.put, List.setIfInBounds_toArray, List.set_cons_zero, List.set_cons_succ]
      refine take_at (i := 36) 74 (.agg #[.int .i64 nt, .int .i64 nr]) rfl rfl (by kernel_rfl) (by kernel_rfl) (by kernel_rfl) (fun _ _ _ h => h) (yields_ld (.tmp 73) 24 (.pointer (some ⟨w.heap.size, 3, none⟩)) _ LB.out rfl rfl rfl) BV.out ?_
      simp only [Act.put, List.setIfInBounds_toArray, List.set_cons_zero, List.set_cons_succ]
      refine take_at (i := 37) 75 ?_ rfl rfl (by kernel_rfl) (by kernel_rfl) (by kernel_rfl) (fun _ _ _ h => h) (.inl ⟨rfl, ?_⟩) BV.out ?_
      rotate_left 1
      · intro w hSw; go_simp; try with_reducible rfl
      simp only [Act.put, List.setIfInBounds_toArray, List.set_cons_zero, List.set_cons_succ]
      refine take_at (i := 38) 76 (.agg #[.int .i64 nt, .int .i64 nr]) rfl rfl (by kernel_rfl) (by kernel_rfl) (by kernel_rfl) (fun _ _ _ h => h) (yields_ld (.tmp 75) 24 (.pointer (some ⟨w.heap.size, 3, none⟩)) _ LB.out rfl rfl rfl) BV.out ?_
      simp only [Act.put, List.setIfInBounds_toArray, List.set_cons_zero, List.set_cons_succ]
      refine wpAnyH_ready (rs := [39]) (by kernel_rfl) (by simp) (br_call (i := 39) 77 24 #[.pointer u, .agg #[.int .i64 nt, .int .i64 nr], .agg #[.int .i64 nt, .int .i64 nr]] rfl rfl rfl (by go_simp) ((above_of _ _ none 0 0 none 0 0 nt nr nt nr false (HV.out _ BV.out) (fun W _ => Tb.above_dead W (.pointer none) (.inl rfl) nt nr nt nr)).mono ?_) AllReadyH.nil)
      rintro e v6 ⟨rfl, hb⟩
      have BV := Lib.hid (BV.out.trans (hb.mono BV.out.size))
      clear hb
      refine ⟨_, rfl, BV.out, fun _ => ?_⟩
      simp only [Act.put, List.setIfInBounds_toArray, List.set_cons_zero, List.set_cons_succ]
      refine take_at (i := 40) 78 ?_ rfl rfl (by kernel_rfl) (by kernel_rfl) (by kernel_rfl) (fun _ _ _ h => h) (.inl ⟨rfl, ?_⟩) BV.out ?_
      rotate_left 1
      · intro w hSw; go_simp; try with_reducible rfl
      simp only [Act.put, List.setIfInBounds_toArray, List.set_cons_zero, List.set_cons_succ]
      refine take_at (i := 41) 79 ?_ rfl rfl (by kernel_rfl) (by kernel_rfl) (by kernel_rfl) (fun _ _ _ h => h) (.inl ⟨rfl, ?_⟩) BV.out ?_
      rotate_left 1
      · intro w hSw; go_simp; try with_reducible rfl
      simp only [Act.put, List.setIfInBounds_toArray, List.set_cons_zero, List.set_cons_succ]
      refine take_at (i := 42) 80 ?_ rfl rfl (by kernel_rfl) (by kernel_rfl) (by kernel_rfl) (fun _ _ _ h => h) (.inl ⟨rfl, ?_⟩) BV.out ?_
      rotate_left 1
      · intro w hSw; go_simp; try with_reducible rfl
      simp only [Act.put, List.setIfInBounds_toArray, List.set_cons_zero, List.set_cons_succ]
      refine take_at (i := 43) 81 ?_ rfl rfl (by kernel_rfl) (by kernel_rfl) (by kernel_rfl) (fun _ _ _ h => h) (.inl ⟨rfl, ?_⟩) BV.out ?_
      rotate_left 1
      · intro w hSw; go_simp; try with_reducible rfl
      simp only [Act.put, List.setIfInBounds_toArray, List.set_cons_zero, List.set_cons_succ]
      refine take_at (i := 44) 82 (.agg #[.int .i64 t, .int .i64 r]) rfl rfl (by kernel_rfl) (by kernel_rfl) (by kernel_rfl) (fun _ _ _ h => h) (yields_ld (.tmp 81) 24 (.pointer (some ⟨w.heap.size, 0, none⟩)) _ LA.out rfl rfl rfl) BV.out ?_
      simp only [Act.put, List.setIfInBounds_toArray, List.set_cons_zero, List.set_cons_succ]
      refine wpAnyH_ready (rs := [45]) (by kernel_rfl) (by simp) (br_call (i := 45) 83 14 #[.pointer u, .agg #[.int .i64 t, .int .i64 r]] rfl rfl rfl (by go_simp) ((CU.out _ BV.out).mono ?_) AllReadyH.nil)
      rintro e v7 ⟨rfl, hb⟩
      have BV := Lib.hid (BV.out.trans (hb.mono BV.out.size))
      clear hb
      refine ⟨_, rfl, BV.out, fun _ => ?_⟩
      simp only [Act.put, List.setIfInBounds_toArray, List.set_cons_zero, List.set_cons_succ]
      refine take_at (i := 46) 84 ?_ rfl rfl (by kernel_rfl) (by kernel_rfl) (by kernel_rfl) (fun _ _ _ h => h) (.inl ⟨rfl, ?_⟩) BV.out ?_
      rotate_left 1
      · intro w hSw; go_simp; try with_reducible rfl
      simp only [Act.put, List.setIfInBounds_toArray, List.set_cons_zero, List.set_cons_succ]
      refine take_at (i := 47) 85 ?_ rfl rfl (by kernel_rfl) (by kernel_rfl) (by kernel_rfl) (fun _ _ _ h => h) (.inl ⟨rfl, ?_⟩) BV.out ?_
      rotate_left 1
      · intro w hSw; go_simp; try with_reducible rfl
      simp only [Act.put, List.setIfInBounds_toArray, List.set_cons_zero, List.set_cons_succ]
      refine take_at (i := 48) 86 ?_ rfl rfl (by kernel_rfl) (by kernel_rfl) (by kernel_rfl) (fun _ _ _ h => h) (.inl ⟨rfl, ?_⟩) BV.out ?_
      rotate_left 1
      · intro w hSw; go_simp; try with_reducible rfl
      simp only [Act.put, List.setIfInBounds_toArray, List.set_cons_zero, List.set_cons_succ]
      refine take_at (i := 49) 87 ?_ rfl rfl (by kernel_rfl) (by kernel_rfl) (by kernel_rfl) (fun _ _ _ h => h) (.inl ⟨rfl, ?_⟩) BV.out ?_
      rotate_left 1
      · intro w hSw; go_simp; try with_reducible rfl
      simp only [Act.put, List.setIfInBounds_toArray, List.set_cons_zero, List.set_cons_succ]
      refine take_at (i := 51) 89 ?_ rfl rfl (by kernel_rfl) (by kernel_rfl) (by kernel_rfl) (fun _ _ _ h => h) (.inl ⟨rfl, ?_⟩) BV.out ?_
      rotate_left 1
      · intro w hSw; go_simp; try with_reducible rfl
      simp only [Act.put, List.setIfInBounds_toArray, List.set_cons_zero, List.set_cons_succ]
      refine wpAnyH_ready (rs := [50]) (by kernel_rfl) (by simp) (br_call (i := 50) 88 18 #[.pointer u] rfl rfl rfl (by go_simp) ((floor_of _ _ none 0 0 none 0 0 (HV.out _ BV.out)).mono ?_) AllReadyH.nil)
      rintro e v8 ⟨rfl, hb⟩
      have BV := Lib.hid (BV.out.trans (hb.mono BV.out.size))
      clear hb
      refine ⟨_, rfl, BV.out, fun _ => ?_⟩
      simp only [Act.put, List.setIfInBounds_toArray, List.set_cons_zero, List.set_cons_succ]
      refine take_at (i := 52) 90 ?_ rfl rfl (by kernel_rfl) (by kernel_rfl) (by kernel_rfl) (fun _ _ _ h => h) (.inl ⟨rfl, ?_⟩) BV.out ?_
      rotate_left 1
      · intro w hSw; go_simp; try with_reducible rfl
      simp only [Act.put, List.setIfInBounds_toArray, List.set_cons_zero, List.set_cons_succ]
      refine take_at (i := 53) 91 ?_ rfl rfl (by kernel_rfl) (by kernel_rfl) (by kernel_rfl) (fun _ _ _ h => h) (.inl ⟨rfl, ?_⟩) BV.out ?_
      rotate_left 1
      · intro w hSw; go_simp; try with_reducible rfl
      simp only [Act.put, List.setIfInBounds_toArray, List.set_cons_zero, List.set_cons_succ]
      refine take_at (i := 54) 92 ?_ rfl rfl (by kernel_rfl) (by kernel_rfl) (by kernel_rfl) (fun _ _ _ h => h) (.inl ⟨rfl, ?_⟩) BV.out ?_
      rotate_left 1
      · intro w hSw; go_simp; try with_reducible rfl
      simp only [Act.put, List.setIfInBounds_toArray, List.set_cons_zero, List.set_cons_succ]
      refine take_at (i := 55) 93 ?_ rfl rfl (by kernel_rfl) (by kernel_rfl) (by kernel_rfl) (fun _ _ _ h => h) (.inl ⟨rfl, ?_⟩) BV.out ?_
      rotate_left 1
      · intro w hSw; go_simp; try with_reducible rfl
      simp only [Act.put, List.setIfInBounds_toArray, List.set_cons_zero, List.set_cons_succ]
      refine take_at (i := 58) 96 ?_ rfl rfl (by kernel_rfl) (by kernel_rfl) (by kernel_rfl) (fun _ _ _ h => h) (.inl ⟨rfl, ?_⟩) BV.out ?_
      rotate_left 1
      · intro w hSw; go_simp; try with_reducible rfl
      simp only [Act.put, List.setIfInBounds_toArray, List.set_cons_zero, List.set_cons_succ]
      refine wpAnyH_ready (rs := [56]) (by kernel_rfl) (by simp) (br_call (i := 56) 94 32 #[.pointer u] rfl rfl rfl (by go_simp) ((table_of _ _ none 0 0 none 0 0 [] (HV.out _ BV.out) (clones_none _)).mono ?_) AllReadyH.nil)
      rintro e v9 ⟨q1, b1, rfl, h1, _, _, hb⟩
      have BV := Lib.hid (BV.out.trans (hb.mono BV.out.size))
      have T1 := Lib.hid h1
      clear h1
      clear hb
      refine ⟨_, rfl, BV.out, fun _ => ?_⟩
      simp only [Act.put, List.setIfInBounds_toArray, List.set_cons_zero, List.set_cons_succ]
      refine wpAnyH_ready (rs := [57]) (by kernel_rfl) (by simp) (br_call (i := 57) 95 40 #[.pointer (some ⟨q1, 0, none⟩)] rfl rfl rfl (by go_simp) ((len_nil _ q1 b1 T1.out).mono ?_) AllReadyH.nil)
      rintro e v10 ⟨rfl, ho⟩
      have hw9 := ho
      subst hw9
      clear ho
      refine ⟨_, rfl, BV.out, fun _ => ?_⟩
      simp only [Act.put, List.setIfInBounds_toArray, List.set_cons_zero, List.set_cons_succ]
      refine wpAnyH_ready (rs := [59]) (by kernel_rfl) (by simp) (br_call (i := 59) 97 29 #[.pointer u] rfl rfl rfl (by go_simp) ((base_of _ _ none 0 0 none 0 0 [] [] (HV.out _ BV.out) (clones_none _) (LiesK.nil _) (by simp) (fun s hs => by cases hs)).mono ?_) AllReadyH.nil)
      rintro e v11 ⟨q2, b2, rfl, h2, _, _, hb⟩
      have BV := Lib.hid (BV.out.trans (hb.mono BV.out.size))
      have T1 := Lib.hid (T1.out.step hb)
      have T2 := Lib.hid h2
      clear h2
      clear hb
      refine ⟨_, rfl, BV.out, fun _ => ?_⟩
      simp only [Act.put, List.setIfInBounds_toArray, List.set_cons_zero, List.set_cons_succ]
      refine wpAnyH_ready (rs := [60]) (by kernel_rfl) (by simp) (br_call (i := 60) 98 40 #[.pointer (some ⟨q2, 0, none⟩)] rfl rfl rfl (by go_simp) ((len_nil _ q2 b2 T2.out).mono ?_) AllReadyH.nil)
      rintro e v12 ⟨rfl, ho⟩
      have hw9 := ho
      subst hw9
      clear ho
      refine ⟨_, rfl, BV.out, fun _ => ?_⟩
      simp only [Act.put, List.setIfInBounds_toArray, List.set_cons_zero, List.set_cons_succ]
      refine take_at (i := 61) 99 ?_ rfl rfl (by kernel_rfl) (by kernel_rfl) (by kernel_rfl) (fun _ _ _ h => h) (.inl ⟨rfl, ?_⟩) BV.out ?_
      rotate_left 1
      · intro w hSw; go_simp; try with_reducible rfl
      simp only [Act.put, List.setIfInBounds_toArray, List.set_cons_zero, List.set_cons_succ]
      refine take_at (i := 62) 100 ?_ rfl rfl (by kernel_rfl) (by kernel_rfl) (by kernel_rfl) (fun _ _ _ h => h) (.inl ⟨rfl, ?_⟩) BV.out ?_
      rotate_left 1
      · intro w hSw; go_simp; try with_reducible rfl
      simp only [Act.put, List.setIfInBounds_toArray, List.set_cons_zero, List.set_cons_succ]
      refine take_at (i := 63) 101 ?_ rfl rfl (by kernel_rfl) (by kernel_rfl) (by kernel_rfl) (fun _ _ _ h => h) (.inl ⟨rfl, ?_⟩) BV.out ?_
      rotate_left 1
      · intro w hSw; go_simp; try with_reducible rfl
      simp only [Act.put, List.setIfInBounds_toArray, List.set_cons_zero, List.set_cons_succ]
      refine wpAnyH_done (by kernel_rfl) ?_ _
      have KF := Lib.hid (K2.out.step BV.out)
      clear BV
      go_wp2
      go_roundw
      case rel => exact ⟨i + 1, by go_num, by have := HLT.out; omega, KF⟩
      case measure => have := HLT.out; simp [intOf]; omega
    · have ei : i = 2 := by omega
      subst ei
      go_wp2_with fail
      refine (AW.out wr).mono ?_
      rintro e w5 ⟨rfl, hb⟩
      have FB := Lib.hid (K.out.bel.trans (hb.mono K.out.bel.size))
      clear hb
      go_wp2
      go_returns
      exact ⟨rfl, FB.out⟩
theorem nobody_law (w : World) (o : O) (h : OkO o) : Calls Try.prog 7 #[oV o] w fun e w' => e = .returned (.bool true) ∧ Below w.heap.size w w' := nobody_any w o.t o.r o.q o.nt o.nr o.pt o.pr o.nm o.d h.nt h.nr
end Go.Proofs.Ytkmeceoilighiaa
