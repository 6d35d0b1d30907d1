/- unique.Names. Made by genun.py. -/
import Derived.Test.YtkkeemhbokpngaaDoorUP
import Derived.Deep.LoopGhost
import Derived.WalkMore
import Derived.ScopeJumps
import Derived.Maps.AppendAt
set_option linter.unusedVariables false
namespace Go.Proofs.YtkkeemhbokpngaaDoor
open Go.RowKit Go.WideMaps Go.Maps

/-- What is used, and which number is next, i places done. -/
structure Used (raw taken : List ByteArray) (i : Nat) (fu fn : SF) : Prop where
  mem : ∀ s, (fu s).isSome = true ↔ s ∈ taken ++ raw ++ tell raw taken i
  kp : ∀ (j : Nat) s, raw[j]? = some s → (fu s = some (j : Int) ↔ KeptAt raw taken j s)
  nxt : ∀ s n, fn s = some n → n ≤ 1000 ∧ ∀ j : Nat, 2 ≤ j → (j : Int) < n → sfx s j ∈ taken ++ raw ++ tell raw taken i
theorem used_start {raw taken : List ByteArray} {f : SF} (h : Owns raw taken raw.length f) : Used raw taken 0 f (fun _ => none) :=
  ⟨fun s => by rw [h.there s, List.take_length]; simp [tell], fun j s hs => h.kept hs, fun s n hn => by cases hn⟩
theorem used_kept {raw taken : List ByteArray} {i : Nat} {fu fn : SF} {x : ByteArray} (h : Used raw taken i fu fn) (hx : raw[i]? = some x) (hk : keptB raw taken i x = true) : Used raw taken (i + 1) fu fn := by
  have hm : x ∈ raw := List.mem_iff_getElem?.2 ⟨i, hx⟩
  have ht : tell raw taken (i + 1) = tell raw taken i ++ [x] := by rw [tell_succ hx, nx_kept hk]
  refine ⟨fun s => ?_, h.kp, fun s n hn => ⟨(h.nxt s n hn).1, fun j a b => ?_⟩⟩
  · rw [h.mem s, ht]
    simp only [List.mem_append, List.mem_singleton]
    constructor
    · rintro ((q | q) | q)
      · exact .inl (.inl q)
      · exact .inl (.inr q)
      · exact .inr (.inl q)
    · rintro ((q | q) | (q | q))
      · exact .inl (.inl q)
      · exact .inl (.inr q)
      · exact .inr q
      · rw [q]; exact .inl (.inr hm)
  · have := (h.nxt s n hn).2 j a b
    rw [ht, ← List.append_assoc]
    exact List.mem_append_left _ this
theorem used_free {raw taken : List ByteArray} {i k : Nat} {fu fn : SF} {x : ByteArray} (h : Used raw taken i fu fn) (hx : raw[i]? = some x) (hk : keptB raw taken i x = false) (hf : FreeAt (taken ++ raw ++ tell raw taken i) x k) (hk1 : k ≤ 900) :
    Used raw taken (i + 1) (upd fu (sfx x k) (-1)) (upd fn x ((k : Int) + 1)) := by
  have ht : tell raw taken (i + 1) = tell raw taken i ++ [sfx x k] := by rw [tell_succ hx, nx_free hk hf]
  refine ⟨fun s => ?_, fun j s hs => ?_, fun s n hn => ?_⟩
  · by_cases e : s = sfx x k
    · subst e
      rw [upd_same, ht]
      simp
    · rw [upd_other e, h.mem s, ht, ← List.append_assoc, List.mem_append (t := [sfx x k]), List.mem_singleton]
      exact ⟨fun q => .inl q, fun q => q.resolve_right e⟩
  · rw [upd_other (fun e => hf.2.1 (by rw [← e]; simp [List.mem_iff_getElem?.2 ⟨j, hs⟩]))]
    exact h.kp j s hs
  · rw [ht, ← List.append_assoc]
    by_cases e : s = x
    · subst e
      rw [upd_same] at hn
      injection hn with hn
      subst hn
      refine ⟨by omega, fun j a b => ?_⟩
      by_cases e : j = k
      · rw [e]; simp
      · exact List.mem_append_left _ (hf.2.2 j a (by omega))
    · rw [upd_other e] at hn
      exact ⟨(h.nxt s n hn).1, fun j a b => List.mem_append_left _ ((h.nxt s n hn).2 j a b)⟩
theorem own_block {w w' : World} {B e size n : Nat} {v : Value} {xs : List Value} (h : w.ownsRow B e size v n xs) (hk : ∀ k, v.ownBlock = some k → w'.heap[k]? = w.heap[k]?) : w'.ownsRow B e size v n xs := by
  refine ⟨h.1, h.2.imp id fun ⟨g, cap, cur, h1, h2, h3, h4⟩ => ⟨g, cap, cur, h1, h2, ?_, h4⟩⟩
  rw [hk g (by rw [h1]; rfl)]
  exact h3
theorem tab_step {w w' : World} (h : Tab w) (hb : Below w.heap.size w w') : Tab w' := tab_later h hb
theorem own_ne {W : World} {v v3 : Value} {b : Nat} (hn : v.ownBlock ≠ some b) (hlt : b < W.heap.size) (hv3 : v3.ownBlock = v.ownBlock ∨ ∃ k, v3.ownBlock = some k ∧ W.heap.size ≤ k) : v3.ownBlock ≠ some b := by
  rcases hv3 with e | ⟨k, e, hk⟩
  · rw [e]; exact hn
  · rw [e]; intro q; injection q with q; omega
set_option maxRecDepth 100000 in
set_option maxHeartbeats 12800000 in
theorem names_any (w : World) (v t : Value) (raw taken : List ByteArray) (htab : Tab w) (h : SLies w v raw) (hm : SLies w t taken) (hr : raw.length ≤ 31) (ht : taken.length ≤ 30) (hs : ∀ s ∈ raw, s.size ≤ 300) (hst : ∀ s ∈ taken, s.size ≤ 300) :
    Calls Tryd.prog 9 #[v, t] w fun e w' => ∃ r, e = .returned r ∧ w'.ownsRow w.heap.size 9 1 r raw.length (strs (tell raw taken raw.length)) ∧ Below w.heap.size w w' := by
  obtain ⟨i0, hi9, hz0, hz1, hz2⟩ := info_parts info9
  have H := Lib.hid h
  have HM := Lib.hid hm
  have HS := Lib.hid hs
  have HT := Lib.hid htab
  have OW := Lib.hid (owners_any w v t raw taken h hm hr ht hs hst)
  obtain ⟨ao, cap, rfl, -⟩ := h
  obtain ⟨ta, tc, rfl, -⟩ := hm
  have hmm := @run_makeMap Tryd.prog
  clear hs hst htab
  go_enter Tryd.func9, Tryd.ntmps9
  go_wp2_with fail
  go_step3
  go_wp2_with fail
  refine OW.out.mono ?_
  rintro e w1 ⟨rfl, f, im, ho, hb⟩
  obtain ⟨bu, hbu⟩ : ∃ b, w.heap.size = b := ⟨_, rfl⟩
  have HBU := Lib.hid hbu
  rw [hbu] at im ⊢
  obtain ⟨bn, hbn⟩ : ∃ b, w1.heap.size = b := ⟨_, rfl⟩
  have HBN := Lib.hid hbn
  have hlt := im.lt
  have HNE := Lib.hid (show bu ≠ bn ∧ w.heap.size ≤ bu ∧ w.heap.size ≤ bn from ⟨by omega, by omega, by omega⟩)
  have M2 := imap_made w1
  obtain ⟨w2, hw2⟩ : ∃ y, w1.alloc (.map #[] 0) = y := ⟨_, rfl⟩
  have B12 : Below w1.heap.size w1 w2 := by rw [← hw2]; exact (Below.refl _ _).alloc (Nat.le_refl _) _
  rw [hw2, hbn] at M2
  have HW2 := Lib.hid hw2
  have I0 := Lib.hid (show ∃ fu fn, IMap w2 bu 100 fu ∧ IMap w2 bn 0 fn ∧ Used raw taken 0 fu fn ∧ w2.ownsRow w.heap.size 9 1 (.slice none 0 0) 0 (strs (tell raw taken 0)) ∧ Below w.heap.size w w2 ∧ (Value.slice none 0 0).ownBlock ≠ some bu ∧ (Value.slice none 0 0).ownBlock ≠ some bn from
    ⟨f, _, im.step B12, M2, used_start ho, World.ownsRow_nil _ _ _ _, hb.trans (B12.mono hb.size), by simp [Value.ownBlock], by simp [Value.ownBlock]⟩)
  have HBU' := Lib.hid (show bu < w2.heap.size ∧ bn < w2.heap.size from ⟨Nat.lt_of_lt_of_le hlt B12.size, M2.lt⟩)
  clear im ho hb M2 B12 hlt hw2 OW
  go_upto_region 3 with (fail)
  rw [HW2.out]
  clear hbu hbn hmm
  go_wp2_with fail
  go_step3
  go_wp2_with fail
  go_loopg [7, 20] raw.length (fun gh tv iv wr => ∃ (tq : Value) (i : Nat), tq = tv ∧ iv = .int .i64 i ∧ i + gh = raw.length ∧ Hid (∃ fu fn, IMap wr bu (100 + i) fu ∧ IMap wr bn i fn ∧ Used raw taken i fu fn ∧ wr.ownsRow w.heap.size 9 1 tv i (strs (tell raw taken i)) ∧ Below w.heap.size w wr ∧ tv.ownBlock ≠ some bu ∧ tv.ownBlock ≠ some bn))
  case atStart => exact ⟨_, 0, rfl, rfl, Nat.zero_add _, I0⟩
  case round =>
    obtain ⟨tq, i, rfl, rfl, hig, hI⟩ := hrel
    have hi : i ≤ raw.length := by omega
    obtain ⟨fu, fn, iu, inx, hus, hown, hbel, hnu, hnn⟩ := hI.out
    have IU := Lib.hid iu
    have IN := Lib.hid inx
    have US := Lib.hid hus
    have OWN := Lib.hid hown
    have BEL := Lib.hid hbel
    have NU := Lib.hid (And.intro hnu hnn)
    clear hI iu inx hus hown hnu hnn
    by_cases hlt : i < raw.length
    · obtain ⟨g, o, x, rfl, hx, hg, hc⟩ := H.out.at' hlt
      have hc1 := (hbel.cell (p := ⟨g, o + i, none⟩) hg).trans hc
      have HX := Lib.hid hx
      have HXS := Lib.hid (show x.size ≤ 300 from HS.out x (List.mem_iff_getElem?.2 ⟨i, hx⟩))
      have TS := Lib.hid (tell_succ (taken := taken) hx)
      have TL := Lib.hid (tell_len raw taken i (by omega))
      have hbsz := hbel.size
      clear hx hc hg hbel
      cases hkb : keptB raw taken i x with
      | true =>
        have HK := Lib.hid hkb
        have hfu : fu x = some (i : Int) := (US.out.kp i x HX.out).2 (by
          by_cases q : KeptAt raw taken i x
          · exact q
          · rw [keptB_false q] at hkb; cases hkb)
        go_wp2_with (first
          | (at_lookup; refine wpList_ilook _ rfl _ _ rfl bu (100 + i) fu rfl IU.out x rfl (by have := HXS.out; unfold maxLen; omega) ?_; rw [hfu])
          | (at_builtin; refine wpList_append_own_at _ rfl (.tmp 30) (.tmp 32) 22 rfl w.heap.size 9 i0 (.string ⟨#[]⟩) 1 16 Tryd.underlying22 hi9 hz0 hz1 hz2 rfl (by decide) _ i (strs (tell raw taken i)) rfl (OWN.out.alloc _) ⟨_, 0, none⟩ 1 1 [.string x] rfl rfl (one_new _ _ _) (by intro u hu; simp at hu; subst hu; rfl) (by unfold maxLen; omega) (by omega) (by simp; omega) ?_; intro v3 w3 hown3 hgrow3 hnil3 hloc3))
        have FIN := Lib.hid (show ∃ fu fn, IMap w3 bu (100 + (i + 1)) fu ∧ IMap w3 bn (i + 1) fn ∧ Used raw taken (i + 1) fu fn ∧ w3.ownsRow w.heap.size 9 1 v3 (i + 1) (strs (tell raw taken (i + 1))) ∧ Below w.heap.size w w3 ∧ v3.ownBlock ≠ some bu ∧ v3.ownBlock ≠ some bn from by
          have hl1 := IU.out.lt
          have hl2 := IN.out.lt
          have g0 := World.grownBy_alloc wr (.cells #[.string x] 9) none
          have m1 := (IU.out.grown g0 (by simp)).grown hgrow3 (fun e => NU.out.1 (by rw [e]; rfl))
          have m2 := (IN.out.grown g0 (by simp)).grown hgrow3 (fun e => NU.out.2 (by rw [e]; rfl))
          obtain ⟨D1, a1, a2⟩ := m1
          obtain ⟨D2, c1, c2⟩ := m2
          refine ⟨fu, fn, ⟨D1, a1.mono (by omega), a2⟩, ⟨D2, c1.mono (by omega), c2⟩, used_kept US.out HX.out HK.out, ?_, app1_below BEL.out OWN.out (Nat.le_refl _) hgrow3, ?_, ?_⟩
          · rw [TS.out, nx_kept HK.out, strs_append]; exact hown3
          · exact own_ne NU.out.1 hl1 (hloc3.imp id fun e => ⟨_, e, by simp⟩)
          · exact own_ne NU.out.2 hl2 (hloc3.imp id fun e => ⟨_, e, by simp⟩))
        clear hown3 hgrow3 hnil3 hkb hfu
        go_wp2
        go_roundg (raw.length - (i + 1))
        case rel => exact ⟨_, i + 1, rfl, by go_num, by omega, FIN⟩
        case measure => omega
      | false =>
        have HK := Lib.hid hkb
        obtain ⟨c, hc⟩ : ∃ c, fu x = some c := by
          have q := (US.out.mem x).2 (by simp [List.mem_iff_getElem?.2 ⟨i, HX.out⟩])
          cases e : fu x with
          | none => rw [e] at q; cases q
          | some c => exact ⟨c, rfl⟩
        have hci : c ≠ (i : Int) := fun e => by
          have q := (US.out.kp i x HX.out).1 (by rw [hc, e])
          rw [keptB_true q] at hkb
          cases hkb
        have t1 := bneb_ c (i : Int) hci
        have HC := Lib.hid hc
        obtain ⟨n0, hn0⟩ : ∃ n, (fn x).getD 0 = n := ⟨_, rfl⟩
        have HN0 := Lib.hid hn0
        obtain ⟨k0, hk0⟩ : ∃ k0 : Nat, max n0 2 = (k0 : Int) := ⟨(max n0 2).toNat, by omega⟩
        have HK0 := Lib.hid (show 2 ≤ k0 ∧ k0 ≤ 1000 ∧ ∀ j, 2 ≤ j → j < k0 → sfx x j ∈ taken ++ raw ++ tell raw taken i from by
          cases e : fn x with
          | none =>
            rw [e] at hn0
            have : n0 = 0 := hn0.symm
            exact ⟨by omega, by omega, fun j a b => by omega⟩
          | some m =>
            rw [e] at hn0
            have e2 : n0 = m := hn0.symm
            obtain ⟨q1, q2⟩ := US.out.nxt x m e
            exact ⟨by omega, by omega, fun j a b => q2 j a (by omega)⟩)
        clear hkb hci hc hn0
        go_wp2_with (first
          | (at_lookup; refine wpList_ilook _ rfl _ _ rfl bu (100 + i) fu rfl IU.out x rfl (by have := HXS.out; unfold maxLen; omega) ?_; rw [HC.out])
          | (at_lookup; refine wpList_ilook _ rfl _ _ rfl bn i fn rfl IN.out x rfl (by have := HXS.out; unfold maxLen; omega) ?_; rw [HN0.out]))
        clear t1 hc1
        generalize wr = we at *
        go_loopg [7, 10] (1000 - k0) (fun gh tv kv w5 => ∃ k : Nat, tq = tv ∧ kv = .int .i64 k ∧ k + gh = 1000 ∧ 2 ≤ k ∧ Hid (∀ j, 2 ≤ j → j < k → sfx x j ∈ taken ++ raw ++ tell raw taken i) ∧ Hid (Below we.heap.size we w5))
        case atStart => exact ⟨k0, rfl, rfl, by have := HK0.out.2.1; omega, HK0.out.1, Lib.hid HK0.out.2.2, Lib.hid (Below.refl _ _)⟩
        case round =>
          obtain ⟨k, rfl, rfl, hkg, hk2, hJ, hB5⟩ := hrel
          have hst : k ≤ 120 := by
            have q := still _ x k hk2 (by omega) hJ.out
            rw [List.length_append, List.length_append, TL.out] at q
            omega
          have SX := Lib.hid (suffixed_any wr x (sfx x k) (k : Int) (by have := HXS.out; omega) (by omega) (tab_step HT.out (BEL.out.trans (hB5.out.mono BEL.out.size))) (sfx_is x k))
          have HSZ := Lib.hid (show (sfx x k).size ≤ 300 from by
            obtain ⟨p, e, _, q, _⟩ := suff_list (k := (k : Int)) (by omega) (sfx_is x k)
            have q2 : (sfx x k).size = p.length + 1 + (decS (max (k : Int) 2)).size := by
              rw [← size_list, e, ← size_list (decS _), decS_list]; simp; omega
            omega)
          obtain ⟨sk, hsk⟩ : ∃ y, sfx x k = y := ⟨_, rfl⟩
          have HSK := Lib.hid hsk
          rw [hsk] at SX HSZ
          clear hsk
          go_upto_region 12 with (fail)
          go_wp2_with fail
          refine SX.out.mono ?_
          rintro e w7 ⟨rfl, hb7⟩
          have B7 := Lib.hid (hB5.out.trans (hb7.mono hB5.out.size))
          have IU7 := Lib.hid (IU.out.step B7.out)
          have IN7 := Lib.hid (IN.out.step B7.out)
          have OWN7 := Lib.hid (own_kept OWN.out B7.out)
          have BEL7 := Lib.hid (BEL.out.trans (B7.out.mono BEL.out.size))
          clear hb7
          cases hso : (fu sk).isSome with
          | true =>
            have HNX := Lib.hid (show ∀ j, 2 ≤ j → j < k + 1 → sfx x j ∈ taken ++ raw ++ tell raw taken i from fun j a b => by
              by_cases e : j = k
              · rw [e, HSK.out]; exact (US.out.mem sk).1 hso
              · exact hJ.out j a (by omega))
            go_wp2_with (at_lookup; refine wpList_ilookok _ rfl _ _ rfl bu (100 + i) fu rfl IU7.out sk rfl (by have := HSZ.out; unfold maxLen; omega) ?_; rw [hso])
            clear hso
            go_wp2_with fail
            go_roundg (1000 - (k + 1))
            case rel => exact ⟨k + 1, rfl, by go_num, by omega, by omega, HNX, B7⟩
            case measure => omega
          | false =>
            have HFR := Lib.hid (show FreeAt (taken ++ raw ++ tell raw taken i) x k from ⟨hk2, (fun q => by rw [HSK.out] at q; rw [(US.out.mem sk).2 q] at hso; cases hso), hJ.out⟩)
            have hw1 : IntKind.i64.wrap ((k : Int) + 1) = (k : Int) + 1 := by rw [IntKind.wrap_i64]; omega
            go_upto_region 14 with (at_lookup; refine wpList_ilookok _ rfl _ _ rfl bu (100 + i) fu rfl IU7.out sk rfl (by have := HSZ.out; unfold maxLen; omega) ?_; rw [hso])
            clear hso
            go_upto_region 15 with (at_mapUpdate; refine wpList_iput _ rfl _ _ _ rfl bu (100 + i) fu rfl IU7.out (by omega) sk (-1) rfl rfl (by have := HSZ.out; unfold maxLen; omega) (by omega) ?_; intro w8 iu8 g8)
            have IU8 := Lib.hid iu8
            have IN8 := Lib.hid (IN7.out.grown g8 (by intro e; injection e with e; exact HNE.out.1 e.symm))
            have OWN8 := Lib.hid (own_block OWN7.out fun j hj => g8.block j (OWN7.out.lt j hj).2 (fun e => NU.out.1 (by rw [hj, e])))
            have BEL8 := Lib.hid (BEL7.out.grown g8 BEL7.out.size (fun j hj => by cases hj; exact HNE.out.2.1))
            clear iu8 g8
            go_upto_region 16 with (at_mapUpdate; refine wpList_iput _ rfl _ _ _ rfl bn i fn rfl IN8.out (by omega) x ((k : Int) + 1) rfl rfl (by have := HXS.out; unfold maxLen; omega) (by omega) ?_; intro w9 in9 g9)
            have IN9 := Lib.hid in9
            have IU9 := Lib.hid (IU8.out.grown g9 (by intro e; injection e with e; exact HNE.out.1 e))
            have OWN9 := Lib.hid (own_block OWN8.out fun j hj => g9.block j (OWN8.out.lt j hj).2 (fun e => NU.out.2 (by rw [hj, e])))
            have BEL9 := Lib.hid (BEL8.out.grown g9 BEL8.out.size (fun j hj => by cases hj; exact HNE.out.2.2))
            have hbsz := BEL9.out.size
            clear in9 g9
            go_wp2_with (at_builtin; refine wpList_append_own_at _ rfl (.tmp 57) (.tmp 59) 22 rfl w.heap.size 9 i0 (.string ⟨#[]⟩) 1 16 Tryd.underlying22 hi9 hz0 hz1 hz2 rfl (by decide) _ i (strs (tell raw taken i)) rfl (OWN9.out.alloc _) ⟨_, 0, none⟩ 1 1 [.string sk] rfl rfl (one_new _ _ _) (by intro u hu; simp at hu; subst hu; rfl) (by unfold maxLen; omega) (by omega) (by simp; omega) ?_; intro v3 w3 hown3 hgrow3 hnil3 hloc3)
            have FIN := Lib.hid (show ∃ fu fn, IMap w3 bu (100 + (i + 1)) fu ∧ IMap w3 bn (i + 1) fn ∧ Used raw taken (i + 1) fu fn ∧ w3.ownsRow w.heap.size 9 1 v3 (i + 1) (strs (tell raw taken (i + 1))) ∧ Below w.heap.size w w3 ∧ v3.ownBlock ≠ some bu ∧ v3.ownBlock ≠ some bn from by
              have hl1 := IU9.out.lt
              have hl2 := IN9.out.lt
              have g0 := World.grownBy_alloc w9 (.cells #[.string sk] 9) none
              have m1 := (IU9.out.grown g0 (by simp)).grown hgrow3 (fun e => NU.out.1 (by rw [e]; rfl))
              have m2 := (IN9.out.grown g0 (by simp)).grown hgrow3 (fun e => NU.out.2 (by rw [e]; rfl))
              have hu := used_free US.out HX.out HK.out HFR.out (by omega)
              rw [HSK.out] at hu
              refine ⟨_, _, m1, m2, hu, ?_, app1_below BEL9.out OWN9.out (Nat.le_refl _) hgrow3, ?_, ?_⟩
              · rw [TS.out, nx_free HK.out HFR.out, HSK.out, strs_append]; exact hown3
              · exact own_ne NU.out.1 hl1 (hloc3.imp id fun e => ⟨_, e, by simp⟩)
              · exact own_ne NU.out.2 hl2 (hloc3.imp id fun e => ⟨_, e, by simp⟩))
            clear hown3 hgrow3 hnil3 hloc3
            go_wp2
            go_roundg (raw.length - (i + 1))
            case rel => exact ⟨_, i + 1, rfl, by go_num, by omega, FIN⟩
            case measure => omega
    · have he : i = raw.length := by omega
      have FIN := Lib.hid (he ▸ OWN.out)
      clear hbel
      go_wp2
      rw [Exit.noGoto_ret]
      go_returns
      exact ⟨_, rfl, FIN.out, BEL.out⟩
end Go.Proofs.YtkkeemhbokpngaaDoor
