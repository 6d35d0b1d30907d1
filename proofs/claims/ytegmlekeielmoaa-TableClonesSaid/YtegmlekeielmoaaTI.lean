/- A table: Kids, walked. -/
import Derived.Test.YtegmlekeielmoaaTH
set_option linter.unusedVariables false
set_option maxRecDepth 100000
namespace Go.Proofs.Ytegmlekeielmoaa
open Go.RowKit Go.WideMaps Go.Maps

theorem row_iter {w : World} {b r : Nat} {l done : List Rw} {base : Nat} {e : TypeId} {size : Nat} {v : Value} {m : Nat} {xs : List Value} (h : w.ownsRow base e size v m xs) (hr : TRg w b r l done) : some r ≠ v.ownBlock := by
  obtain ⟨es, left, cnt, h1, _⟩ := hr
  obtain ⟨_, _, _, _, _, _, _, _, _, hit, _⟩ := h1
  rcases h.2 with ⟨rfl, _⟩ | ⟨g, cap, cur, rfl, _, hb, _⟩
  · simp [Value.ownBlock]
  · intro e1
    have : r = g := by simpa [Value.ownBlock] using e1
    subst this
    rw [hit] at hb
    cases hb
theorem row_map {w : World} {b : Nat} {l : List Rw} {base : Nat} {e : TypeId} {size : Nat} {v : Value} {m : Nat} {xs : List Value} (h : w.ownsRow base e size v m xs) (hr : TM w b l) : some b ≠ v.ownBlock := by
  obtain ⟨es, h1, _⟩ := hr
  obtain ⟨es', c, hb', _⟩ := h1
  rcases h.2 with ⟨rfl, _⟩ | ⟨g, cap, cur, rfl, _, hb, _⟩
  · simp [Value.ownBlock]
  · intro e1
    have : b = g := by simpa [Value.ownBlock] using e1
    subst this
    rw [hb'] at hb
    cases hb
abbrev kd (done : List Rw) (pt pr : Int) : List Sp := (done.filter (atP pt pr)).map stOf
/-- Kids, between two rounds. -/
structure KI (w W : World) (b r : Nat) (l : List Rw) (pt pr : Int) (v : Value) (done : List Rw) : Prop where
  rg : TRg W b r l done
  own : W.ownsRow (w.heap.size + 1) 24 2 v (kd done pt pr).length ((kd done pt pr).flatMap encS)
  box : StAt W w.heap.size pt pr
  bel : Below w.heap.size w W
  big : w.heap.size + 1 ≤ r
theorem KI.len {w W : World} {b r : Nat} {l : List Rw} {pt pr : Int} {v : Value} {done : List Rw} (h : KI w W b r l pt pr v done) : done.length ≤ l.length := by
  obtain ⟨es, left, cnt, _, _, _, h4, _, h6, h7⟩ := h.rg
  exact List.Nodup.length_le_of_subset h6 h7
theorem KI.step {w W W' : World} {b r : Nat} {l : List Rw} {pt pr : Int} {v : Value} {done : List Rw} (h : KI w W b r l pt pr v done) (hb : Below W.heap.size W W') : KI w W' b r l pt pr v done ∧ W'.rangeLeft b r = W.rangeLeft b r := by
  have hg := below_grown hb none
  have k := h.rg.kept hg (by simp) (by simp)
  exact ⟨⟨k.1, own_belowK h.own hb, h.box.step hb, h.bel.trans (hb.mono h.bel.size), h.big⟩, k.2⟩
/-- The iterator's step. -/
theorem KI.next {w W W' : World} {b r : Nat} {l : List Rw} {pt pr : Int} {v : Value} {done : List Rw} (h : KI w W b r l pt pr v done) (hg : W.grownBy W' (some r)) : W'.ownsRow (w.heap.size + 1) 24 2 v (kd done pt pr).length ((kd done pt pr).flatMap encS) ∧ StAt W' w.heap.size pt pr ∧ Below w.heap.size w W' := by
  refine ⟨h.own.kept hg ?_, (hg.block _ (lt_of_block h.box) (fun e => by injection e with e; have := h.big; omega)).trans h.box, h.bel.grown hg h.bel.size (fun k e => by cases e; have := h.big; omega)⟩
  have := row_iter h.own h.rg
  cases hv : v.ownBlock with
  | none => exact .inl rfl
  | some g => exact .inr (fun e => this (by rw [hv, e]))
theorem kd_yes {done : List Rw} {x : Rw} {pt pr : Int} (h : x.pt = pt ∧ x.pr = pr) : kd (done ++ [x]) pt pr = kd done pt pr ++ [stOf x] := by
  unfold kd
  rw [List.filter_append, List.map_append]
  simp [atP, h]
theorem kd_no {done : List Rw} {x : Rw} {pt pr : Int} (h : ¬ (x.pt = pt ∧ x.pr = pr)) : kd (done ++ [x]) pt pr = kd done pt pr := by
  unfold kd
  rw [List.filter_append, List.map_append]
  simp [atP, h]
set_option maxHeartbeats 3200000 in
theorem kids_any (w : World) (p b : Nat) (l : List Rw) (h : TabI w p b l) (hl : l.length < 100000) (pt pr : Int) :
    Calls Try.prog 19 #[.pointer (some ⟨p, 0, none⟩), .agg #[.int .i64 pt, .int .i64 pr]] w fun e w' => ∃ v, e = .returned v ∧ w'.ownsRow w.heap.size 24 2 v (kidsF l pt pr).length ((kidsF l pt pr).flatMap encS) ∧ Below w.heap.size w w' := by
  have B1 := Lib.hid (vstep w (.cells #[.int .i64 pt, .int .i64 pr] 24))
  have T1 := Lib.hid (h.step B1.out)
  have S1 := Lib.hid (StAt.new w pt pr)
  obtain ⟨W0, hW0⟩ : ∃ y, w.alloc (.cells #[.int .i64 pt, .int .i64 pr] 24) = y := ⟨_, rfl⟩
  rw [hW0] at T1 S1 B1
  have HS := Lib.hid (show W0.heap.size = w.heap.size + 1 from by rw [← hW0]; simp)
  have HW := Lib.hid hW0
  have M := Lib.hid (made_any W0 p b l T1.out)
  have RS := Lib.hid h.map.rise
  obtain ⟨i0, hi, hz0, hz1, hz2⟩ := info_parts info24
  clear hW0 h
  go_enter Try.func19, Try.ntmps19
  go_upto_region 1 with (fail)
  rw [HW.out]
  go_wp2_with fail
  refine M.out.mono ?_
  rintro e w1 ⟨rfl, rfl⟩
  have c0 := T1.out.cell
  go_wp2_with (at_range; refine wpList_trange rfl _ rfl b l rfl T1.out.map ?_; intro w2 hr hg hs; have R2 := Lib.hid hr; have G2 := Lib.hid hg; clear hr hg hs)
  have K0 := Lib.hid (show KI w w2 b W0.heap.size l pt pr (.slice none 0 0) [] from ⟨R2.out, World.ownsRow_nil _ _ _ _, S1.out.step ⟨G2.out.os, G2.out.tape, G2.out.output, G2.out.size, fun k hk => G2.out.block k hk (by simp)⟩, B1.out.grown G2.out B1.out.size (fun k e => by cases e), by have := HS.out; omega⟩)
  clear c0 R2 G2 M T1
  go_frame
  go_loopw [5] (fun sv wr => ∃ done, Hid (KI w wr b W0.heap.size l pt pr sv done)) (fun _ wr => wr.rangeLeft b W0.heap.size)
  case atStart => exact ⟨[], K0⟩
  case round =>
    obtain ⟨done, hK⟩ := hrel
    obtain ⟨va, vc, rfl⟩ := own_shapeK hK.out.own
    have KH := Lib.hid hK.out
    have OW := Lib.hid hK.out.own
    have LK := Lib.hid (show (kd done pt pr).length < 100000 from by have := hK.out.len; have : (kd done pt pr).length ≤ done.length := by { unfold kd; rw [List.length_map]; exact List.length_filter_le _ _ }; omega)
    obtain ⟨ks, hks⟩ : ∃ ks, kd done pt pr = ks := ⟨_, rfl⟩
    rw [hks] at OW LK ⊢
    have HK := Lib.hid hks
    clear hK K0 hks
    go_wp2_with (at_next; refine wpList_tnext rfl _ rfl b W0.heap.size l done rfl KH.out.rg ?_ ?_)
    · intro hall
      have HA := Lib.hid hall
      clear hall
      have SO := Lib.hid (sort_own wr _ _ ks OW.out (by have := LK.out; omega))
      go_wp2_with fail
      refine SO.out.mono ?_
      rintro e w4 ⟨rfl, l', hp, hs, ho, hg⟩
      have EQ := Lib.hid (kids_one RS.out (KH.out.rg.all HA.out) pt pr (by rw [show (done.filter (atP pt pr)).map stOf = ks from HK.out]; exact hp) hs)
      have FIN := Lib.hid (show w4.ownsRow w.heap.size 24 2 (.slice va ks.length vc) (kidsF l pt pr).length ((kidsF l pt pr).flatMap encS) ∧ Below w.heap.size w w4 from by
        have e1 : ks.length = (kidsF l pt pr).length := by rw [← EQ.out]; exact hp.length_eq.symm
        rw [EQ.out, e1] at ho
        refine ⟨?_, KH.out.bel.grown hg KH.out.bel.size (fun k e => by have := (OW.out.lt k e).1; omega)⟩
        rw [e1]
        exact ⟨ho.1, ho.2.imp id fun ⟨g, cap, cur, h1, h2, h3⟩ => ⟨g, cap, cur, h1, by omega, h3⟩⟩)
      clear hp hs ho hg EQ HA SO
      go_wp2
      go_returns
      exact ⟨_, rfl, FIN.out.1, FIN.out.2⟩
    · intro x w3 hx hn hr hlt hg hs hen
      have N3 := Lib.hid (KH.out.next hg)
      have R3 := Lib.hid hr
      have LT := Lib.hid hlt
      have HX := Lib.hid (And.intro hx hn)
      clear hr hlt hg hs hx hn
      have B4 := Lib.hid ((vstep w3 (.cells #[.int .i64 x.t, .int .i64 x.r] 24)).trans ((vstep (w3.alloc (.cells #[.int .i64 x.t, .int .i64 x.r] 24)) (.cells #[.int .i64 x.pt, .int .i64 x.pr, .string x.nm, .bool x.d] 34)).mono (vstep w3 _).size))
      have S4 := Lib.hid ((StAt.new w3 x.t x.r).step (vstep _ (.cells #[.int .i64 x.pt, .int .i64 x.pr, .string x.nm, .bool x.d] 34)))
      have E4 := Lib.hid (show EnAt ((w3.alloc (.cells #[.int .i64 x.t, .int .i64 x.r] 24)).alloc (.cells #[.int .i64 x.pt, .int .i64 x.pr, .string x.nm, .bool x.d] 34)) (w3.heap.size + 1) x.pt x.pr x.nm x.d from by have := EnAt.new (w3.alloc (.cells #[.int .i64 x.t, .int .i64 x.r] 24)) x.pt x.pr x.nm x.d; rwa [World.size_alloc] at this)
      have N3 := Lib.hid (show w3.ownsRow (w.heap.size + 1) 24 2 (.slice va ks.length vc) ks.length (ks.flatMap encS) ∧ StAt w3 w.heap.size pt pr ∧ Below w.heap.size w w3 from by have := N3.out; rw [HK.out] at this; exact this)
      go_upto_region 7 with (fail)
      obtain ⟨w4, hw4⟩ : ∃ y, (w3.alloc (.cells #[.int .i64 x.t, .int .i64 x.r] 24)).alloc (.cells #[.int .i64 x.pt, .int .i64 x.pr, .string x.nm, .bool x.d] 34) = y := ⟨_, rfl⟩
      rw [hw4] at B4 S4 E4 ⊢
      clear hw4 hen
      have R4 := Lib.hid (R3.out.kept (below_grown B4.out none) (by simp) (by simp))
      have O4 := Lib.hid (own_belowK N3.out.1 B4.out)
      have X4 := Lib.hid (N3.out.2.1.step B4.out)
      have L4 := Lib.hid (N3.out.2.2.trans (B4.out.mono N3.out.2.2.size))
      clear R3 N3 OW
      obtain ⟨c1, c2⟩ := S4.out.cells
      obtain ⟨d0, d1, d2, d3⟩ := E4.out.cells
      obtain ⟨e0, e1⟩ := X4.out.cells
      by_cases hq : x.pt = pt ∧ x.pr = pr
      · have t1 := beqb_ _ _ hq.1
        have t2 := beqb_ _ _ hq.2
        have KY := Lib.hid (kd_yes (done := done) hq)
        clear hq
        have O5 := Lib.hid (own_belowK O4.out (vstep w4 (.cells #[.int .i64 x.t, .int .i64 x.r] 24)))
        have H5 := Lib.hid (show (w4.alloc (.cells #[.int .i64 x.t, .int .i64 x.r] 24)).heap[w4.heap.size]? = some (.cells (encS (stOf x)).toArray 24 (0, 0)) from heap_alloc_new w4 _)
        have Q5 := Lib.hid (And.intro (show ks.length + 1 ≤ maxLen from by have := LK.out; unfold maxLen; omega) (And.intro (show (ks.length + 1) * 16 ≤ 140737488355328 from by have := LK.out; omega) (show w.heap.size + 1 ≤ (w4.alloc (.cells #[.int .i64 x.t, .int .i64 x.r] 24)).heap.size from by have := L4.out.size; simp; omega)))
        go_wp2_with (at_builtin; refine wpList_pushK rfl (.tmp 25) (.tmp 27) 43 rfl encS_len (by decide) encS_one (w.heap.size + 1) 24 i0 (.agg #[.int .i64 0, .int .i64 0]) 16 Try.u43 hi hz0 hz1 hz2 rfl (.slice va ks.length vc) ks (stOf x) w4.heap.size rfl rfl H5.out O5.out Q5.out.1 Q5.out.2.1 Q5.out.2.2 ?_; intro v6 w6 hown hgr; have O6 := Lib.hid hown; have G6 := Lib.hid hgr; clear hown hgr)
        have B5 := vstep w4 (.cells #[.int .i64 x.t, .int .i64 x.r] 24)
        have R5 := R4.out.1.kept (below_grown B5 none) (by simp) (by simp)
        have R6 := R5.1.kept G6.out (row_map O5.out R5.1.tm) (row_iter O5.out R5.1)
        have FIN := Lib.hid (show KI w w6 b W0.heap.size l pt pr v6 (done ++ [x]) from ⟨R6.1, by rw [KY.out, HK.out]; exact O6.out, (G6.out.block _ (by have := lt_of_block X4.out; simp; omega) (fun e => by have := (O5.out.lt _ e.symm).1; omega)).trans (X4.out.step B5), (L4.out.trans (B5.mono L4.out.size)).grown G6.out (by have := L4.out.size; simp; omega) (fun k e => by have := (O5.out.lt k e).1; omega), by have := HS.out; omega⟩)
        have ML := Lib.hid (show w6.rangeLeft b W0.heap.size < wr.rangeLeft b W0.heap.size from by rw [R6.2, R5.2, R4.out.2]; exact LT.out)
        clear R6 R5 B5 c1 c2 d0 d1 d2 d3 e0 e1 t1 t2
        go_roundw
        case rel => exact ⟨done ++ [x], FIN⟩
        case measure => exact ML.out
      · have KN := Lib.hid (kd_no (done := done) hq)
        have FIN := Lib.hid (show KI w w4 b W0.heap.size l pt pr (.slice va ks.length vc) (done ++ [x]) from ⟨R4.out.1, by rw [KN.out, HK.out]; exact O4.out, X4.out, L4.out, by have := HS.out; omega⟩)
        have ML := Lib.hid (show w4.rangeLeft b W0.heap.size < wr.rangeLeft b W0.heap.size from by rw [R4.out.2]; exact LT.out)
        rcases no2 hq with t1 | ⟨t1, t2⟩
        all_goals
          clear hq KN
          go_wp2
          go_roundw
          case rel => exact ⟨done ++ [x], FIN⟩
          case measure => exact ML.out
end Go.Proofs.Ytegmlekeielmoaa
