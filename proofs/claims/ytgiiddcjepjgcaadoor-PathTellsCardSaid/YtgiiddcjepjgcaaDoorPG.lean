/- path.Parse. Made by genpg.py. -/
import Derived.Test.YtgiiddcjepjgcaaDoorPF
set_option linter.unusedVariables false
namespace Go.Proofs.YtgiiddcjepjgcaaDoor
open Go.RowKit

theorem slies_big (w : World) (l : List ByteArray) (hl : l.length ≤ 1000000) : SLies (w.alloc (.cells (strs l).toArray 9)) (.slice (some ⟨w.heap.size, 0, none⟩) l.length l.length) l := by
  refine ⟨_, _, rfl, Nat.le_refl _, by unfold maxLen; omega, (fun h => by cases h), fun i s hs => ⟨_, _, rfl, by simp, ?_⟩⟩
  rw [cell_of_row _ _ _ _ _ _ (heap_alloc_new w _), Nat.zero_add]
  simp [strs_get, hs]
theorem split_any (w : World) (b : ByteArray) (m : Int) (hm : w.cell? ⟨0, 0, none⟩ = some (.int .i64 m)) (hb : b.size ≤ 9000) (ps : List ByteArray) (hps : Lib.splitB ⟨#[47]⟩ 0 (Lib.countB b ⟨#[47]⟩) b = ps) :
    Calls Tryd.prog 22 #[.string b, .string ⟨#[47]⟩] w fun e w' => ∃ v, e = .returned v ∧ SLies w' v ps ∧ Below w.heap.size w w' := by
  have hl : ps.length = Lib.countB b ⟨#[47]⟩ + 1 := by
    rw [← hps]
    exact Lib.splitB_all ⟨#[47]⟩ (by decide) 0 _ b rfl
  have hc := Lib.countB_le ⟨#[47]⟩ (by decide) b.size b (Nat.le_refl _)
  refine (Tryd.strings_Split b ⟨#[47]⟩ m w (by omega) hm (by decide)).mono ?_
  rintro e w' ⟨rfl, rfl⟩
  rw [hps, ← hl]
  exact ⟨_, rfl, slies_big w ps (by omega), vstep w _⟩
theorem cut_any (w : World) (s b : ByteArray) (h : s.data.toList = 47 :: b.data.toList) :
    Calls Tryd.prog 21 #[.string s, .string ⟨#[47]⟩] w fun e w' => e = .returned (.tuple #[.string b, .bool true]) ∧ w' = w := by
  refine (Tryd.strings_CutPrefix s ⟨#[47]⟩ w).mono ?_
  rintro e w' ⟨rfl, rfl⟩
  have e1 : Lib.hasPrefix s.data.toList (ByteArray.mk #[47]).data.toList = true := by rw [h]; simp [Lib.hasPrefix, List.isPrefixOf]
  have e2 : Lib.trimPrefix s.data.toList (ByteArray.mk #[47]).data.toList = b.data.toList := by
    unfold Lib.trimPrefix
    rw [if_pos e1, h]
    rfl
  rw [e1, e2]
  exact ⟨rfl, rfl⟩
noncomputable def ckI (s : ByteArray) : Int := (check_is s).choose
theorem ckI_is (s : ByteArray) : CheckIs s (ckI s) := (check_is s).choose_spec
theorem check_one {s : ByteArray} {c d : Int} (h : CheckIs s c) (g : CheckIs s d) : c = d := by
  rcases h with ⟨h1, rfl⟩ | ⟨h1, h2, h3, rfl⟩ | ⟨h1, h2, h3, rfl⟩ <;> rcases g with ⟨g1, rfl⟩ | ⟨g1, g2, g3, rfl⟩ | ⟨g1, g2, g3, rfl⟩ <;> first | rfl | omega | (rcases h1 with q | q <;> contradiction) | (rcases g1 with q | q <;> contradiction)
theorem ckI_eq {s : ByteArray} {c : Int} (h : CheckIs s c) : ckI s = c := check_one (ckI_is s) h
theorem ckI_cases (s : ByteArray) : ckI s = 25 ∨ ckI s = 26 ∨ ckI s = 0 := by
  rcases ckI_is s with ⟨_, h⟩ | ⟨_, _, _, h⟩ | ⟨_, _, _, h⟩
  · exact .inl h
  · exact .inr (.inl h)
  · exact .inr (.inr h)
noncomputable def lgF (n : Nat) (ps : List ByteArray) (k : Nat) : Bool := decide (4096 < n) || (ps.take k).any (fun p => ckI p == 26)
theorem lgF_step {n k : Nat} {ps : List ByteArray} {p : ByteArray} (h : ps[k]? = some p) : lgF n ps (k + 1) = (lgF n ps k || ckI p == 26) := by
  unfold lgF
  obtain ⟨hlt, hp⟩ := List.getElem?_eq_some_iff.1 h
  rw [List.take_succ_eq_append_getElem hlt, List.any_append, hp]
  simp [Bool.or_assoc]
noncomputable def parseC (n : Nat) (ps : List ByteArray) : Int := if ps.any (fun p => ckI p == 25) then 25 else if lgF n ps ps.length then 26 else 0
theorem parseC_bad {n k : Nat} {ps : List ByteArray} {p : ByteArray} (h : ps[k]? = some p) (hc : ckI p = 25) : parseC n ps = 25 := by
  unfold parseC
  rw [if_pos (List.any_eq_true.2 ⟨p, List.mem_of_getElem? h, by rw [hc]; rfl⟩)]
theorem parseC_end {n : Nat} {ps : List ByteArray} (h : ∀ j p, j < ps.length → ps[j]? = some p → ckI p ≠ 25) : parseC n ps = if lgF n ps ps.length then 26 else 0 := by
  unfold parseC
  rw [if_neg]
  intro q
  obtain ⟨p, hp, hc⟩ := List.any_eq_true.1 q
  obtain ⟨j, hj⟩ := List.mem_iff_getElem?.1 hp
  exact h j p (List.getElem?_eq_some_iff.1 hj).1 hj (by simpa using hc)
theorem ret_p {v : Value} {a b : Int} (h : a = b) : (Ending.returned (.tuple #[v, .int .i64 a])) = .returned (.tuple #[v, .int .i64 b]) := by rw [h]
set_option maxRecDepth 100000 in
set_option maxHeartbeats 3200000 in
theorem parse_any (w : World) (s b : ByteArray) (m : Int) (hm : w.cell? ⟨0, 0, none⟩ = some (.int .i64 m)) (hs : s.data.toList = 47 :: b.data.toList) (hb : b.toList.isEmpty = false) (hsz : s.size ≤ 8000) (ps : List ByteArray) (hps : Lib.splitB ⟨#[47]⟩ 0 (Lib.countB b ⟨#[47]⟩) b = ps) (hpz : ∀ p ∈ ps, p.size ≤ 8000) :
    Calls Tryd.prog 15 #[.string s] w fun e w' => ∃ v, e = .returned (.tuple #[v, .int .i64 (parseC s.size ps)]) ∧ (parseC s.size ps = 0 → SLies w' v ps) ∧ Below w.heap.size w w' := by
  have hbs : b.size ≤ 9000 := by
    have e1 : s.size = s.data.toList.length := by rw [Array.length_toList]; rfl
    have e2 : b.size = b.data.toList.length := by rw [Array.length_toList]; rfl
    have := congrArg List.length hs
    simp only [List.length_cons] at this
    omega
  have CUT := Lib.hid (fun W => cut_any W s b hs)
  have SPL := Lib.hid (split_any w b m hm hbs ps hps)
  have PZ := Lib.hid hpz
  clear hs hm hps hpz hbs
  go_enter Tryd.func15, Tryd.ntmps15
  go_wp2_with fail
  refine (CUT.out _).mono ?_
  rintro e w1 ⟨rfl, rfl⟩
  clear CUT
  go_wp2_with fail
  refine SPL.out.mono ?_
  rintro e w1 ⟨v, rfl, hv, hb1⟩
  have HV := Lib.hid hv
  have B1 := Lib.hid hb1
  obtain ⟨ao, cap, rfl, -⟩ := hv
  clear hb1 SPL
  have hl := HV.out.len
  have LG := Lib.hid (show lgF s.size ps 0 = decide (4096 < s.size) from by unfold lgF; simp)
  by_cases hbig : 4096 < s.size
  · have h1 : (4096 : Int) < (s.size : Int) := by omega
    have LG0 := Lib.hid (show lgF s.size ps 0 = true from by rw [LG.out]; simpa using hbig)
    have LGI := Lib.hid (show decide ((4096 : Int) < (s.size : Int)) = true from decide_eq_true h1)
    clear hbig
    go_wp2_with fail
    clear h1
    go_loopw [7, 26] (fun lv kv wr => ∃ k : Nat, lv = .bool (lgF s.size ps k) ∧ kv = .int .i64 k ∧ k ≤ ps.length ∧ Hid ((∀ j p, j < k → ps[j]? = some p → ckI p ≠ 25) ∧ Below w1.heap.size w1 wr)) (fun _ kv _ => ps.length - (intOf kv).toNat)
    case atStart => exact ⟨0, by rw [LG0.out]; try rw [LGI.out], rfl, Nat.zero_le _, Lib.hid ⟨fun j p hj => by omega, Below.refl _ _⟩⟩
    case round =>
      obtain ⟨k, rfl, rfl, hk, hI⟩ := hrel
      by_cases hlt : k < ps.length
      · obtain ⟨g, o, p, rfl, hp, hg, hc⟩ := HV.out.at' hlt
        have hc1 := (hI.out.2.cell (p := ⟨g, o + k, none⟩) hg).trans hc
        have CK := Lib.hid (check_any wr p (by have := PZ.out p (List.mem_of_getElem? hp); omega) (ckI p) (ckI_is p))
        have HS := Lib.hid (lgF_step (n := s.size) hp)
        have HP := Lib.hid hp
        obtain ⟨b0, hb0⟩ : ∃ y, lgF s.size ps k = y := ⟨_, rfl⟩
        rw [hb0] at HS
        rw [hb0]
        have NEW := Lib.hid (fun (w2 : World) (hb : Below wr.heap.size wr w2) (hn : ckI p ≠ 25) => show (∀ j p, j < k + 1 → ps[j]? = some p → ckI p ≠ 25) ∧ Below w1.heap.size w1 w2 from ⟨fun j p' hj hp' => by
          by_cases e : j = k
          · rw [e, HP.out] at hp'
            injection hp' with hp'
            rw [← hp']
            exact hn
          · exact hI.out.1 j p' (by omega) hp', hI.out.2.trans (hb.mono hI.out.2.size)⟩)
        clear hp hg hc hb0
        rcases ckI_cases p with q | q | q
        · rw [q] at CK
          have BAD := Lib.hid (parseC_bad (n := s.size) HP.out q)
          clear q
          go_wp2_with fail
          refine CK.out.mono ?_
          rintro e w2 ⟨rfl, hb⟩
          have HB := Lib.hid hb
          clear hb
          go_wp2_with fail
          go_returns
          exact ⟨_, ret_p BAD.out.symm, (fun h => by rw [BAD.out] at h; cases h), (B1.out.trans ((hI.out.2.trans (HB.out.mono hI.out.2.size)).mono B1.out.size))⟩
        · have HT := Lib.hid (show lgF s.size ps (k + 1) = true from by rw [HS.out, q]; simp)
          have N25 := Lib.hid (show ckI p ≠ 25 from by rw [q]; decide)
          rw [q] at CK
          clear q
          go_wp2_with fail
          refine CK.out.mono ?_
          rintro e w2 ⟨rfl, hb⟩
          have HB := Lib.hid (NEW.out _ hb N25.out)
          clear hb
          go_wp2_with fail
          go_roundw
          case rel => exact ⟨k + 1, by rw [HT.out], by go_num, by omega, HB⟩
          case measure => simp [intOf]; omega
        · have HT := Lib.hid (show lgF s.size ps (k + 1) = b0 from by rw [HS.out, q]; simp)
          have N25 := Lib.hid (show ckI p ≠ 25 from by rw [q]; decide)
          rw [q] at CK
          clear q
          go_wp2_with fail
          refine CK.out.mono ?_
          rintro e w2 ⟨rfl, hb⟩
          have HB := Lib.hid (NEW.out _ hb N25.out)
          clear hb
          go_wp2_with fail
          go_roundw
          case rel => exact ⟨k + 1, by rw [HT.out], by go_num, by omega, HB⟩
          case measure => simp [intOf]; omega
      · have END := Lib.hid (show parseC s.size ps = if lgF s.size ps k then 26 else 0 from by
          rw [show k = ps.length by omega]
          exact parseC_end fun j p hj => hI.out.1 j p (by omega))
        cases hq : lgF s.size ps k with
        | true =>
          have E := Lib.hid (show parseC s.size ps = 26 from by rw [END.out, hq]; rfl)
          clear hq
          go_wp2_with fail
          go_returns
          exact ⟨_, ret_p E.out.symm, (fun h => by rw [E.out] at h; cases h), B1.out.trans (hI.out.2.mono B1.out.size)⟩
        | false =>
          have E := Lib.hid (show parseC s.size ps = 0 from by rw [END.out, hq]; rfl)
          clear hq
          go_wp2_with fail
          go_returns
          exact ⟨_, ret_p E.out.symm, fun _ => HV.out.step hI.out.2, B1.out.trans (hI.out.2.mono B1.out.size)⟩
  · have h1 : ¬ (4096 : Int) < (s.size : Int) := by omega
    have LG0 := Lib.hid (show lgF s.size ps 0 = false from by rw [LG.out]; simpa using hbig)
    have LGI := Lib.hid (show decide ((4096 : Int) < (s.size : Int)) = false from decide_eq_false h1)
    clear hbig
    go_wp2_with fail
    clear h1
    go_loopw [7, 26] (fun lv kv wr => ∃ k : Nat, lv = .bool (lgF s.size ps k) ∧ kv = .int .i64 k ∧ k ≤ ps.length ∧ Hid ((∀ j p, j < k → ps[j]? = some p → ckI p ≠ 25) ∧ Below w1.heap.size w1 wr)) (fun _ kv _ => ps.length - (intOf kv).toNat)
    case atStart => exact ⟨0, by rw [LG0.out]; try rw [LGI.out], rfl, Nat.zero_le _, Lib.hid ⟨fun j p hj => by omega, Below.refl _ _⟩⟩
    case round =>
      obtain ⟨k, rfl, rfl, hk, hI⟩ := hrel
      by_cases hlt : k < ps.length
      · obtain ⟨g, o, p, rfl, hp, hg, hc⟩ := HV.out.at' hlt
        have hc1 := (hI.out.2.cell (p := ⟨g, o + k, none⟩) hg).trans hc
        have CK := Lib.hid (check_any wr p (by have := PZ.out p (List.mem_of_getElem? hp); omega) (ckI p) (ckI_is p))
        have HS := Lib.hid (lgF_step (n := s.size) hp)
        have HP := Lib.hid hp
        obtain ⟨b0, hb0⟩ : ∃ y, lgF s.size ps k = y := ⟨_, rfl⟩
        rw [hb0] at HS
        rw [hb0]
        have NEW := Lib.hid (fun (w2 : World) (hb : Below wr.heap.size wr w2) (hn : ckI p ≠ 25) => show (∀ j p, j < k + 1 → ps[j]? = some p → ckI p ≠ 25) ∧ Below w1.heap.size w1 w2 from ⟨fun j p' hj hp' => by
          by_cases e : j = k
          · rw [e, HP.out] at hp'
            injection hp' with hp'
            rw [← hp']
            exact hn
          · exact hI.out.1 j p' (by omega) hp', hI.out.2.trans (hb.mono hI.out.2.size)⟩)
        clear hp hg hc hb0
        rcases ckI_cases p with q | q | q
        · rw [q] at CK
          have BAD := Lib.hid (parseC_bad (n := s.size) HP.out q)
          clear q
          go_wp2_with fail
          refine CK.out.mono ?_
          rintro e w2 ⟨rfl, hb⟩
          have HB := Lib.hid hb
          clear hb
          go_wp2_with fail
          go_returns
          exact ⟨_, ret_p BAD.out.symm, (fun h => by rw [BAD.out] at h; cases h), (B1.out.trans ((hI.out.2.trans (HB.out.mono hI.out.2.size)).mono B1.out.size))⟩
        · have HT := Lib.hid (show lgF s.size ps (k + 1) = true from by rw [HS.out, q]; simp)
          have N25 := Lib.hid (show ckI p ≠ 25 from by rw [q]; decide)
          rw [q] at CK
          clear q
          go_wp2_with fail
          refine CK.out.mono ?_
          rintro e w2 ⟨rfl, hb⟩
          have HB := Lib.hid (NEW.out _ hb N25.out)
          clear hb
          go_wp2_with fail
          go_roundw
          case rel => exact ⟨k + 1, by rw [HT.out], by go_num, by omega, HB⟩
          case measure => simp [intOf]; omega
        · have HT := Lib.hid (show lgF s.size ps (k + 1) = b0 from by rw [HS.out, q]; simp)
          have N25 := Lib.hid (show ckI p ≠ 25 from by rw [q]; decide)
          rw [q] at CK
          clear q
          go_wp2_with fail
          refine CK.out.mono ?_
          rintro e w2 ⟨rfl, hb⟩
          have HB := Lib.hid (NEW.out _ hb N25.out)
          clear hb
          go_wp2_with fail
          go_roundw
          case rel => exact ⟨k + 1, by rw [HT.out], by go_num, by omega, HB⟩
          case measure => simp [intOf]; omega
      · have END := Lib.hid (show parseC s.size ps = if lgF s.size ps k then 26 else 0 from by
          rw [show k = ps.length by omega]
          exact parseC_end fun j p hj => hI.out.1 j p (by omega))
        cases hq : lgF s.size ps k with
        | true =>
          have E := Lib.hid (show parseC s.size ps = 26 from by rw [END.out, hq]; rfl)
          clear hq
          go_wp2_with fail
          go_returns
          exact ⟨_, ret_p E.out.symm, (fun h => by rw [E.out] at h; cases h), B1.out.trans (hI.out.2.mono B1.out.size)⟩
        | false =>
          have E := Lib.hid (show parseC s.size ps = 0 from by rw [END.out, hq]; rfl)
          clear hq
          go_wp2_with fail
          go_returns
          exact ⟨_, ret_p E.out.symm, fun _ => HV.out.step hI.out.2, B1.out.trans (hI.out.2.mono B1.out.size)⟩
end Go.Proofs.YtgiiddcjepjgcaaDoor
