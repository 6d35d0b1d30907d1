/- Same of both; Clone. -/
import Derived.Test.YthbmbpnpigpgpaaUD
set_option linter.unusedVariables false
set_option linter.unusedSimpArgs false
set_option maxRecDepth 100000
namespace Go.Proofs.Ythbmbpnpigpgpaa
open Go.RowKit Go.WideMaps Go.Maps

theorem rise_ext {a b : List Rw} (ha : Rise a) (hb : Rise b) (h : ∀ y, y ∈ a ↔ y ∈ b) : a = b := by
  refine List.Perm.eq_of_pairwise (le := fun x y => ltR x y = true) (fun x y _ _ q1 q2 => ?_) ha hb ((List.perm_ext_iff_of_nodup (rise_nodup ha) (rise_nodup hb)).2 h)
  rcases lt_tri x y with ⟨a1, a2, a3⟩ | ⟨a1, a2, a3⟩ | ⟨a1, a2, a3⟩
  · rw [q2] at a3; cases a3
  · rw [q1] at a1; cases a1
  · rw [q1] at a1; cases a1
theorem fold_iff {L : List Rw} (hL : Rise L) : ∀ (l m : List Rw), (∀ x ∈ m, x ∈ L) → (∀ x ∈ l, x ∈ L) → ∀ y, y ∈ l.foldl setF m ↔ y ∈ m ∨ y ∈ l
  | [], m, _, _, y => by simp
  | x :: l, m, hm, hl, y => by
    have hx := hl x (List.mem_cons_self ..)
    have hsub : ∀ z ∈ setF m x, z ∈ L := fun z hz => by
      rcases mem_set.1 hz with e | e
      · rw [e]; exact hx
      · exact hm z e.1
    have ih := fold_iff hL l (setF m x) hsub (fun z hz => hl z (List.mem_cons_of_mem _ hz)) y
    rw [List.foldl_cons, ih, mem_set, List.mem_cons]
    constructor
    · rintro ((e | e) | e)
      · exact .inr (.inl e)
      · exact .inl e.1
      · exact .inr (.inr e)
    · rintro (e | e | e)
      · cases hs : sameN y x with
        | true => exact .inl (.inl (rise_one hL (hm y e) hx hs))
        | false => exact .inl (.inr ⟨e, rfl⟩)
      · exact .inl (.inl e)
      · exact .inr e
theorem made_perm {l done : List Rw} (h : Rise l) (hp : done.Perm l) : madeF done = l := by
  refine rise_ext (madeF_rise done) h (fun y => ?_)
  unfold madeF
  rw [fold_iff h done [] (fun x hx => by cases hx) (fun x hx => hp.mem_iff.1 hx) y, hp.mem_iff]
  simp
theorem made_snoc (done : List Rw) (x : Rw) : madeF (done ++ [x]) = setF (madeF done) x := by
  unfold madeF
  rw [List.foldl_append]
  rfl
theorem trg_len {w : World} {b r : Nat} {l done : List Rw} (h : TRg w b r l done) : done.length ≤ l.length := by
  obtain ⟨es, left, cnt, _, _, _, h4, _, h6, h7⟩ := h
  exact List.Nodup.length_le_of_subset h6 h7
/-- Between two rounds of a copy. -/
structure CI (w W : World) (b qb r : Nat) (l done : List Rw) : Prop where
  rg : TRg W b r l done
  dst : TM W qb (madeF done)
  grow : w.grownBy W (some qb)
  r0 : w.heap.size ≤ r
set_option maxHeartbeats 6400000 in
theorem copy_any (w : World) (b qb : Nat) (l : List Rw) (h : TM w b l) (hq : TM w qb []) (hne : b ≠ qb) (hl : l.length < 100000) :
    Calls Try.prog 55 #[.map (some qb), .map (some b)] w fun e w' => e = .returned (.tuple #[]) ∧ TM w' qb l ∧ w.grownBy w' (some qb) := by
  have T1 := Lib.hid h
  have Q1 := Lib.hid hq
  have RS := Lib.hid h.rise
  have HQ := Lib.hid hq.lt
  clear h hq
  go_enter Try.func55, Try.ntmps55
  go_wp2_with (at_range; refine wpList_trange rfl _ rfl b l rfl T1.out ?_; intro w2 hr hg hs; have R2 := Lib.hid hr; have G2 := Lib.hid hg; clear hr hg hs)
  have K0 := Lib.hid (show CI w w2 b qb w.heap.size l [] from ⟨R2.out, Q1.out.grown G2.out (by simp), ⟨G2.out.os, G2.out.tape, G2.out.output, G2.out.size, fun k hk _ => G2.out.block k hk (by simp)⟩, Nat.le_refl _⟩)
  clear R2 G2 T1 Q1
  go_frame
  go_loopw [4] (fun sv wr => ∃ done, Hid (CI w wr b qb w.heap.size l done)) (fun _ wr => wr.rangeLeft b w.heap.size)
  case atStart => exact ⟨[], K0⟩
  case round =>
    obtain ⟨done, hK⟩ := hrel
    have KH := Lib.hid hK.out
    clear hK K0
    go_wp2_with (at_next; refine wpList_tnext rfl _ rfl b w.heap.size l done rfl KH.out.rg ?_ ?_)
    · intro hall
      have FIN := Lib.hid (show TM wr qb l ∧ w.grownBy wr (some qb) from ⟨by have := KH.out.dst; rwa [made_perm RS.out (KH.out.rg.all hall)] at this, KH.out.grow⟩)
      clear hall
      go_wp2
      go_returns
      exact ⟨rfl, FIN.out.1, FIN.out.2⟩
    · intro x w3 hx hn hr hlt hg hs hen
      have XO := Lib.hid (show x.ok from by obtain ⟨es, left, cnt, _, _, h3, _⟩ := hr; exact h3 x hx)
      have R3 := Lib.hid hr
      have LT := Lib.hid hlt
      have Q3 := Lib.hid (KH.out.dst.grown hg (by have := HQ.out; intro e; injection e; omega))
      have G3 := Lib.hid (KH.out.grow.andThen hg (fun j e => .inl (by injection e; omega)))
      have ML3 := Lib.hid (show (madeF done).length < maxLen from by have := madeF_len done; have := trg_len KH.out.rg; unfold maxLen; omega)
      have ML4 := Lib.hid (show (madeF done).length < 1000000 from by have := madeF_len done; have := trg_len KH.out.rg; omega)
      clear hr hlt hg hs hx hn KH
      have B4 := Lib.hid ((vstep w3 (.cells #[.int .i64 x.t, .int .i64 x.r] 61)).trans ((vstep (w3.alloc (.cells #[.int .i64 x.t, .int .i64 x.r] 61)) (.cells #[.int .i64 x.pt, .int .i64 x.pr, .string x.nm, .bool x.d] 78)).mono (vstep w3 _).size))
      have S4 := Lib.hid ((StAt.new w3 x.t x.r).step (vstep _ (.cells #[.int .i64 x.pt, .int .i64 x.pr, .string x.nm, .bool x.d] 78)))
      have E4 := Lib.hid (show EnAt ((w3.alloc (.cells #[.int .i64 x.t, .int .i64 x.r] 61)).alloc (.cells #[.int .i64 x.pt, .int .i64 x.pr, .string x.nm, .bool x.d] 78)) (w3.heap.size + 1) x.pt x.pr x.nm x.d from by have := EnAt.new (w3.alloc (.cells #[.int .i64 x.t, .int .i64 x.r] 61)) x.pt x.pr x.nm x.d; rwa [World.size_alloc] at this)
      go_upto_region 3 with (fail)
      obtain ⟨w4, hw4⟩ : ∃ y, (w3.alloc (.cells #[.int .i64 x.t, .int .i64 x.r] 61)).alloc (.cells #[.int .i64 x.pt, .int .i64 x.pr, .string x.nm, .bool x.d] 78) = y := ⟨_, rfl⟩
      rw [hw4] at B4 S4 E4 ⊢
      clear hw4 hen
      have R4 := Lib.hid (R3.out.kept (below_grown B4.out none) (by simp) (by simp))
      have Q4 := Lib.hid (Q3.out.step B4.out)
      obtain ⟨c1, c2⟩ := S4.out.cells
      obtain ⟨d0, d1, d2, d3⟩ := E4.out.cells
      go_wp2_with (at_mapUpdate; refine wpList_tput rfl _ _ _ rfl qb (madeF done) x rfl Q4.out ML4.out XO.out rfl rfl ?_; intro w5 ht hg; have Q5 := Lib.hid ht; have G5 := Lib.hid hg; clear ht hg)
      have R5 := R4.out.1.kept G5.out (fun e => hne (by injection e)) (fun e => by injection e; have := HQ.out; omega)
      have FIN := Lib.hid (show CI w w5 b qb w.heap.size l (done ++ [x]) from ⟨R5.1, by rw [made_snoc]; exact Q5.out, (G3.out.andThen (below_grown B4.out none) (fun j e => by cases e)).andThen G5.out (fun j e => .inr e), Nat.le_refl _⟩)
      have ML := Lib.hid (show w5.rangeLeft b w.heap.size < wr.rangeLeft b w.heap.size from by rw [R5.2, R4.out.2]; exact LT.out)
      clear R5 c1 c2 d0 d1 d2 d3
      go_roundw
      case rel => exact ⟨_, _, _, _, _, _, _, _, _, _, ⟨done ++ [x], FIN⟩, rfl⟩
      case measure => exact ML.out
/-- A clone. -/
structure ClO (w w' : World) (q qb : Nat) (l : List Rw) : Prop where
  tab : TabI w' q qb l
  q0 : w.heap.size ≤ q
  b0 : w.heap.size ≤ qb
  bel : Below w.heap.size w w'
set_option maxHeartbeats 3200000 in
theorem clone_any (w : World) (p b : Nat) (l : List Rw) (h : TabI w p b l) (hl : l.length < 100000) :
    Calls Try.prog 41 #[.pointer (some ⟨p, 0, none⟩)] w fun e w' => ∃ q qb, e = .returned (.pointer (some ⟨q, 0, none⟩)) ∧ ClO w w' q qb l := by
  have N := Lib.hid (new_any w)
  have T0 := Lib.hid h
  clear h
  go_enter Try.func41, Try.ntmps41
  go_wp2_with fail
  refine N.out.mono ?_
  rintro e w1 ⟨q, qb, rfl, h1, h2, h3, h4⟩
  have T1 := Lib.hid (T0.out.step h4)
  have Q1 := Lib.hid h1
  have NE := Lib.hid (show b ≠ qb ∧ w.heap.size ≤ q ∧ w.heap.size ≤ qb ∧ p ≠ qb from ⟨by have := T0.out.blt; omega, h2, h3, by have := T0.out.plt; omega⟩)
  have B1 := Lib.hid h4
  clear h1 h2 h3 h4 N T0
  have M := Lib.hid (made_any w1 p b l T1.out)
  go_wp2_with fail
  refine M.out.mono ?_
  rintro e w2 ⟨rfl, rfl⟩
  have CP := Lib.hid (fun W (hb : Below w1.heap.size w1 W) => copy_any W b qb l (T1.out.step hb).map (Q1.out.step hb).map NE.out.1 hl)
  have CF := Lib.hid (fun W (hb : Below w1.heap.size w1 W) => (show W.cell? ⟨p, 0, none⟩ = some (.map (some b)) ∧ W.cell? ⟨q, 0, none⟩ = some (.map (some qb)) from ⟨(T1.out.step hb).cell, (Q1.out.step hb).cell⟩))
  have BX := Lib.hid (fun W W' (hb : Below w1.heap.size w1 W) (hg : W.grownBy W' (some qb)) (ht : TM W' qb l) => (show ClO w W' q qb l ∧ TabI W' p b l from ⟨⟨⟨(hg.block q (by have := (Q1.out.step hb).plt; omega) (fun e => by injection e; have := Q1.out.ne; omega)).trans (Q1.out.step hb).box, ht⟩, NE.out.2.1, NE.out.2.2.1, (B1.out.trans (hb.mono B1.out.size)).grown hg (by have := B1.out.size; have := hb.size; omega) (fun k e => by cases e; exact NE.out.2.2.1)⟩, (T1.out.step hb).grown hg (fun e => by injection e; have := NE.out.2.2.2; omega) (fun e => by injection e; have := NE.out.1; omega)⟩))
  have BB := Lib.hid ((Below.refl w1.heap.size w1).drew)
  clear M T1 Q1 B1
  go_upto_region 3 with (fail)
  go_region_held3 (fun W => W.cell? ⟨p, 0, none⟩ = some (.map (some b)) ∧ W.cell? ⟨q, 0, none⟩ = some (.map (some qb))) (exact CF.out _ BB.out)
    (first
    | (go_at_call 55; refine (CP.out _ BB.out).mono ?_; rintro e w4 ⟨rfl, ht, hg⟩; have FI := Lib.hid (BX.out _ _ BB.out hg ht); have FIN := Lib.hid FI.out.1; have CF := Lib.hid (fun W (hb : Below w4.heap.size w4 W) => (show W.cell? ⟨p, 0, none⟩ = some (.map (some b)) ∧ W.cell? ⟨q, 0, none⟩ = some (.map (some qb)) from ⟨(FI.out.2.step hb).cell, (FI.out.1.tab.step hb).cell⟩)); have BB := Lib.hid (Below.refl w4.heap.size w4); clear hg ht FI))
  all_goals
    go_wp2
    go_returns
    exact ⟨_, _, rfl, FIN.out⟩
end Go.Proofs.Ythbmbpnpigpgpaa

