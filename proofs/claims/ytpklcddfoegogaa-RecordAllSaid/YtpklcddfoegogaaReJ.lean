/- The reference's All. -/
import Derived.Test.YtpklcddfoegogaaReH
import Derived.Test.YtpklcddfoegogaaReG
set_option linter.unusedVariables false
namespace Go.Proofs.Ytpklcddfoegogaa
open Go.RowKit

theorem Try.info3 : (Try.prog.info? 3).map (fun i => (i.zero, i.size, i.bytes)) = some (some (.int .i64 0), 1, 8) := by kernel_rfl
theorem Try.info22 : (Try.prog.info? 22).map (fun i => (i.zero, i.size, i.bytes)) = some (some (.slice none 0 0), 1, 24) := by kernel_rfl

/-- A record as it was read: where it begins, the slice, what it says. -/
abbrev Rc := Nat × Value × List Nat
def ats (l : List Rc) : List Value := l.map fun p => .int .i64 (p.1 : Int)
def ins (l : List Rc) : List Value := l.map fun p => p.2.1
def both (l : List Rc) : List (Nat × List Nat) := l.map fun p => (p.1, p.2.2)
/-- What the reference's All leaves. -/
structure AllOut (w w' : World) (bs : List Nat) (v1 v2 : Value) (l : List Rc) : Prop where
  own1 : w'.ownsRow w.heap.size 3 1 v1 l.length (ats l)
  own2 : w'.ownsRow w.heap.size 22 1 v2 l.length (ins l)
  each : ∀ p ∈ l, Lies w p.2.1 p.2.2
  below : Below w.heap.size w w'
theorem own_apart {w : World} {B C e f : Nat} {v u : Value} {n m : Nat} {xs ys : List Value} (h : w.ownsRow B e 1 v n xs) (k : w.ownsRow C f 1 u m ys) (hef : e ≠ f) : v.ownBlock = none ∨ v.ownBlock ≠ u.ownBlock := by
  rcases h.2 with ⟨rfl, _⟩ | ⟨g, cap, cur, rfl, _, hg, _⟩
  · exact .inl rfl
  · rcases k.2 with ⟨rfl, _⟩ | ⟨g', cap', cur', rfl, _, hg', _⟩
    · exact .inr (by simp [Value.ownBlock])
    · refine .inr (fun e2 => hef ?_)
      have e3 : g = g' := by simpa [Value.ownBlock] using e2
      subst e3
      rw [hg] at hg'
      injection hg' with hg'
      injection hg'
theorem src_int (w : World) (x : Int) (T : TypeId) : Src Try.prog 1 34 (.slice (some ⟨w.heap.size, 0, none⟩) 1 1) 1 [.int .i64 x] (w.alloc (.cells #[.int .i64 x] T)) := by
  refine Src.ofSlice _ Try.underlying34 _ _ _ _ rfl ?_ (by simp [Value.oneCell'])
  intro j u hj
  match j, hj with
  | 0, hj =>
    have e : u = .int .i64 x := by simpa using hj.symm
    rw [e]
    exact cell_of_one (heap_alloc_new w (.cells #[.int .i64 x] T))
  | j + 1, hj => simp at hj
theorem src_sl (w : World) (a : Option Addr) (n c : Nat) (T : TypeId) : Src Try.prog 1 35 (.slice (some ⟨w.heap.size, 0, none⟩) 1 1) 1 [.slice a n c] (w.alloc (.cells #[.slice a n c] T)) := by
  refine Src.ofSlice _ Try.underlying35 _ _ _ _ rfl ?_ (by simp [Value.oneCell'])
  intro j u hj
  match j, hj with
  | 0, hj =>
    have e : u = .slice a n c := by simpa using hj.symm
    rw [e]
    exact cell_of_one (heap_alloc_new w (.cells #[.slice a n c] T))
  | j + 1, hj => simp at hj

set_option maxRecDepth 100000 in
set_option maxHeartbeats 1600000 in
theorem rall_any (w : World) (v : Value) (bs : List Nat) (h : Lies w v bs) (hb : Byt bs) (hl : bs.length ≤ 200000) :
    Calls Try.prog 13 #[v] w fun e w' => ∃ v1 v2 l, e = .returned (.tuple #[v1, v2, .int .i64 (takes (recs bs) : Int)]) ∧ both l = recs bs ∧ AllOut w w' bs v1 v2 l := by
  obtain ⟨i3, hi3, hz03, hz13, hz23⟩ := info_parts Try.info3
  obtain ⟨i2, hi2, hz02, hz12, hz22⟩ := info_parts Try.info22
  have H := Lib.hid h
  have HB := Lib.hid hb
  obtain ⟨ao, cap, rfl, _⟩ := h
  clear hb
  go_enter Try.func13, Try.ntmps13
  go_wp2
  go_loopw [5, 6, 7] (fun av iv ev wr => ∃ (en : Nat) (l : List Rc), ev = .int .i64 (en : Int) ∧ en ≤ bs.length ∧ l.length ≤ 200000 ∧ Hid (recs bs = both l ++ recsAt en (bs.drop en) ∧ en = takes (both l) ∧ AllOut w wr bs av iv l)) (fun _ _ ev _ => bs.length - (intOf ev).toNat)
  case atStart => exact ⟨0, [], rfl, Nat.zero_le _, Nat.zero_le _, Lib.hid ⟨rfl, rfl, World.ownsRow_nil _ _ _ _, World.ownsRow_nil _ _ _ _, (fun p hp => by cases hp), Below.refl _ _⟩⟩
  case round =>
    obtain ⟨en, l, rfl, hen, hll, hI⟩ := hrel
    have hX := hI.out.2.2.below
    have O1 := Lib.hid hI.out.2.2.own1
    have O2 := Lib.hid hI.out.2.2.own2
    have HE := Lib.hid hI.out.2.2.each
    have HR := Lib.hid hI.out.1
    have HT := Lib.hid hI.out.2.1
    have hfl : (fst (bs.drop en)).2.2 = 0 → (fst (bs.drop en)).2.1 = (fst (bs.drop en)).1.length + 8 ∧ (fst (bs.drop en)).2.1 ≤ bs.length - en := fun h => by
      have := fst_len h
      rw [List.length_drop] at this
      exact ⟨this.1, this.2.1⟩
    have hok := fun h => recsAt_ok (at_ := en) (bs := bs.drop en) h
    have hno := fun h => recsAt_no (at_ := en) (bs := bs.drop en) h
    have F := Lib.hid (rfirst0_any w wr hX _ bs en H.out HB.out hen hl)
    generalize fst (bs.drop en) = q at *
    obtain ⟨x, c, er⟩ := q
    dsimp only at hfl hok hno F
    have hfl := Lib.hid hfl
    have hok := Lib.hid hok
    have hno := Lib.hid hno
    have HX := Lib.hid hX
    obtain ⟨aa, ac, rfl⟩ := own_shape hI.out.2.2.own1
    obtain ⟨ia, ic, rfl⟩ := own_shape hI.out.2.2.own2
    clear hX hI
    go_wp2_with fail
    refine F.out.mono ?_
    rintro e w1 ⟨r, rfl, hL, hb1⟩
    have P1 := Lib.hid (own_kept O1.out hb1)
    have P2 := Lib.hid (own_kept O2.out hb1)
    have B1 := Lib.hid (HX.out.trans (hb1.mono HX.out.size))
    have HL := Lib.hid hL
    obtain ⟨ra, rc, rfl⟩ := lies_shape hL
    clear hb1 hL
    by_cases he : er = 0
    · have f1 := hfl.out he
      have f2 := Lib.hid (hok.out he)
      subst he
      obtain ⟨fc, f3⟩ := f1
      have HFC := Lib.hid fc
      have hc9 : 8 ≤ c := by omega
      have hs1 := B1.out.size
      have hlc : l.length + 1 ≤ 200000 := by
        have h1 := congrArg List.length HR.out
        have h2 := recsAt_count 0 bs
        rw [f2.out] at h1
        unfold both at h1
        simp only [List.length_map, List.length_append, List.length_cons] at h1
        have h3 : recs bs = recsAt 0 bs := rfl
        rw [h3] at h1
        omega
      have hx2 : (x.length : Int) + 8 ≤ 200000 := by omega
      clear hfl hok hno fc
      have h22 : (22 : Nat) ≠ 3 := by decide
      have h33 : (3 : Nat) ≠ 22 := by decide
      have BA := Lib.hid (B1.out.alloc hs1 (.cells #[.int .i64 (en : Int)] 3))
      have PA1 := Lib.hid (P1.out.alloc (.cells #[.int .i64 (en : Int)] 3))
      have PA2 := Lib.hid (P2.out.alloc (.cells #[.int .i64 (en : Int)] 3))
      have AP := Lib.hid (own_apart PA2.out PA1.out h22)
      go_wp2_with (first
        | (at_builtin; refine wpList_append_src_own rfl (.tmp 23) (.tmp 25) 34 34 rfl w.heap.size 3 i3 (.int .i64 0) 1 8 Try.underlying34 hi3 hz03 hz13 hz23 rfl (by decide) (.slice aa l.length ac) l.length (ats l) rfl PA1.out _ 1 [.int .i64 (en : Int)] rfl (src_int _ _ _) (by unfold maxLen; omega) (by omega) BA.out.size ?_; intro v3 w3 hown hgr hspr; have K1 := Lib.hid hown; have Q2 := Lib.hid (PA2.out.kept hgr AP.out); have B3 := Lib.hid (BA.out.grown hgr BA.out.size (fun k hk => (P1.out.lt k hk).1)); clear hown hgr hspr; obtain ⟨a3, c3, rfl⟩ := own_shape K1.out; have BB := Lib.hid (B3.out.alloc B3.out.size (.cells #[.slice ra x.length rc] 22)); have KA1 := Lib.hid (K1.out.alloc (.cells #[.slice ra x.length rc] 22)); have KA2 := Lib.hid (Q2.out.alloc (.cells #[.slice ra x.length rc] 22)); have AQ := Lib.hid (own_apart KA1.out KA2.out h33))
        | (at_builtin; refine wpList_append_src_own rfl (.tmp 27) (.tmp 29) 35 35 rfl w.heap.size 22 i2 (.slice none 0 0) 1 24 Try.underlying35 hi2 hz02 hz12 hz22 rfl (by decide) (.slice ia l.length ic) l.length (ins l) rfl KA2.out _ 1 [.slice ra x.length rc] rfl (src_sl _ _ _ _ _) (by unfold maxLen; omega) (by omega) BB.out.size ?_; intro v4 w4 hown hgr hspr; have K2 := Lib.hid hown; have Q1 := Lib.hid (KA1.out.kept hgr AQ.out); have B4 := Lib.hid (BB.out.grown hgr BB.out.size (fun k hk => (Q2.out.lt k hk).1)); clear hown hgr hspr; obtain ⟨a4, c4, rfl⟩ := own_shape K2.out))
      have HN : Hid (recs bs = both (l ++ [(en, .slice ra x.length rc, x)]) ++ recsAt (en + c) (bs.drop (en + c)) ∧ en + c = takes (both (l ++ [(en, .slice ra x.length rc, x)])) ∧ AllOut w w4 bs (.slice a3 (l.length + 1) c3) (.slice a4 (l.length + 1) c4) (l ++ [(en, .slice ra x.length rc, x)])) := Lib.hid (by
        refine ⟨?_, ?_, ⟨?_, ?_, fun p hp => ?_, B4.out⟩⟩
        · rw [HR.out, f2.out, List.drop_drop]; unfold both; simp
        · unfold both; rw [List.map_append, takes_append, HFC.out]
          have := HT.out
          unfold both at this
          rw [← this]; simp [takes]
        · rw [List.length_append]; unfold ats; rw [List.map_append]; exact Q1.out
        · rw [List.length_append]; unfold ins; rw [List.map_append]; exact K2.out
        · rcases List.mem_append.1 hp with hp | hp
          · exact HE.out p hp
          · rw [List.mem_singleton.1 hp]; exact HL.out)
      go_roundw
      case rel => exact ⟨en + c, l ++ [(en, .slice ra x.length rc, x)], by rw [HFC.out]; go_num, by omega, by simpa using hlc, HN⟩
      case measure => simp [intOf]; omega
    · have t1 := neb_ (er : Int) 0 (by omega)
      have f2 := hno.out he
      have HE2 : Hid (both l = recs bs) := Lib.hid (by rw [HR.out, f2, List.append_nil])
      have HT2 : Hid (en = takes (recs bs)) := Lib.hid (by rw [← HE2.out]; exact HT.out)
      clear hfl hok hno f2 he
      go_wp2
      go_returns
      exact ⟨_, _, l, by rw [← HT2.out]; rfl, HE2.out, P1.out, P2.out, HE.out, B1.out⟩
end Go.Proofs.Ytpklcddfoegogaa
