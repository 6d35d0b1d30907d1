/- The reference's disk: Boot. Made by genry10.py. -/
import Derived.Test.YtoddofcmdbifpaaRX
import Derived.Test.YtoddofcmdbifpaaRM
set_option linter.unusedVariables false
set_option linter.unusedSimpArgs false
set_option maxRecDepth 100000
namespace Go.Proofs.Ytoddofcmdbifpaa
open Go.RowKit Go.WideMaps Go.Maps

theorem lies_cap {α : Type} {enc : α → List Value} {k : Nat} {w : World} {a : Option Addr} {n c : Nat} {l : List α} (h : LiesK enc k w (.slice a n c) l) : n ≤ c ∧ c ≤ maxLen := by
  obtain ⟨ao, cap, e, h1, h2, _⟩ := h
  injection e with e1 e2 e3
  subst e2 e3
  exact ⟨h1, h2⟩
/-- A beginning of what lies there. -/
theorem lies_take {w : World} {a : Option Addr} {c : Nat} {l : List Int} (h : LiesK encB 1 w (.slice a l.length c) l) (n : Nat) (hn : n ≤ l.length) : LiesK encB 1 w (.slice a (l.take n).length c) (l.take n) := by
  obtain ⟨ao, cap, e, h1, h2, h3, h4⟩ := h
  injection e with e1 e2 e3
  subst e1 e3
  refine ⟨a, c, rfl, by rw [List.length_take]; omega, h2, fun q => ?_, fun b hb hne => ?_⟩
  · obtain ⟨q1, q2⟩ := h3 q
    exact ⟨by rw [q1]; simp, q2⟩
  · obtain ⟨g, o, rfl, hg, hc⟩ := h4 b hb (fun q => hne (by rw [q]; simp))
    refine ⟨g, o, rfl, hg, fun j p hp => hc j p ?_⟩
    rw [List.getElem?_take] at hp
    split at hp
    · exact hp
    · cases hp
theorem btL_full {keep : List Int} {l : List Fl} {i : Nat} {x : Fl} (hx : l[i]? = some x) : (btL keep l.length l).take (i + 1) = (btL keep l.length l).take i ++ [bt keep i x] := by
  have hi := (List.getElem?_eq_some_iff.1 hx).1
  rw [List.take_add_one, btL_get, hx]
  simp [hi]
structure BW (w W : World) (v : Value) (m : List Fl) (room lasts : Int) (u : Value) : Prop where
  g0 : RB W w.heap.size v room lasts true
  g1 : RB W (w.heap.size + 1) (.slice none 0 0) 0 0 false
  g2 : RB W (w.heap.size + 2) u room (-1) false
  own : W.ownsRow (w.heap.size + 3) 66 3 u m.length (m.flatMap encR)
  bel : Below w.heap.size w W
theorem BW.step {w W W' : World} {v u : Value} {m : List Fl} {room lasts : Int} (h : BW w W v m room lasts u) (hb : Below W.heap.size W W') : BW w W' v m room lasts u :=
  ⟨h.g0.step hb, h.g1.step hb, h.g2.step hb, own_belowK h.own hb, h.bel.trans (hb.mono h.bel.size)⟩
theorem BW.big {w W : World} {v u : Value} {m : List Fl} {room lasts : Int} (h : BW w W v m room lasts u) : w.heap.size + 3 ≤ W.heap.size := by have := lt_of_block h.g2; omega
theorem ldT9 {W : World} {g o : Nat} {s : ByteArray} (h : W.cell? ⟨g, o, none⟩ = some (.string s)) : (Instr.loadAt 9 (.pointer (some ⟨g, o, none⟩))).run Try.prog W = .ok (.string s) W := by go_simp
set_option maxHeartbeats 1600000 in
theorem rboot_up (w : World) (ao : Option Addr) (n c : Nat) (room lasts : Int) (kv : Value) :
    Calls Try.prog 27 #[rdv (.slice ao n c) room lasts false, kv] w fun e w' => e = .returned (rdv (.slice ao n c) room lasts false) ∧ Below w.heap.size w w' := by
  have B1 := vstep w (.cells #[.slice ao n c, .int .i64 room, .int .i64 lasts, .bool false] 29)
  have B2 := vstep (w.alloc (.cells #[.slice ao n c, .int .i64 room, .int .i64 lasts, .bool false] 29)) (.cells #[.slice none 0 0, .int .i64 0, .int .i64 0, .bool false] 29)
  have G := Lib.hid ((RB.new w (.slice ao n c) room lasts false).step B2)
  have E1 := Lib.hid (RB.new (w.alloc (.cells #[.slice ao n c, .int .i64 room, .int .i64 lasts, .bool false] 29)) (.slice none 0 0) 0 0 false)
  rw [World.size_alloc] at E1
  have B := Lib.hid (B1.trans (B2.mono B1.size))
  obtain ⟨W0, hW0⟩ : ∃ y, (w.alloc (.cells #[.slice ao n c, .int .i64 room, .int .i64 lasts, .bool false] 29)).alloc (.cells #[.slice none 0 0, .int .i64 0, .int .i64 0, .bool false] 29) = y := ⟨_, rfl⟩
  rw [hW0] at G E1 B
  have HW := Lib.hid hW0
  clear B1 B2 hW0
  go_enter Try.func27, Try.ntmps27
  go_upto_region 1 with (fail)
  rw [HW.out]
  obtain ⟨c0, c1, c2, c3⟩ := G.out.cells
  obtain ⟨e0, e1, e2, e3⟩ := E1.out.cells
  obtain ⟨f0, f1, f2, f3⟩ := E1.out.free
  go_wp2
  clear c0 c1 c2 c3 e0 e1 e2 e3 f0 f1 f2 f3
  obtain ⟨w5, hW5⟩ : ∃ w5, sets4 W0 (w.heap.size + 1) (.slice ao n c) (.int .i64 (room)) (.int .i64 (lasts)) (.bool false) = w5 := ⟨_, rfl⟩
  have hb5 := sets4_row (x' := .slice ao n c) (y' := room) (z' := lasts) (v' := false) E1.out
  have hw5 := sets4_below (x := .slice ao n c) (y := .int .i64 (room)) (z := .int .i64 (lasts)) (v := .bool false) B.out (show w.heap.size ≤ w.heap.size + 1 by omega)
  rw [hW5] at hb5 hw5
  unfold sets4 at hW5
  rw [hW5]
  clear hW5
  obtain ⟨d0, d1, d2, d3⟩ := RB.cells (show RB w5 (w.heap.size + 1) (.slice ao n c) (room) (lasts) false from hb5)
  refine bodyPost_ret (by simp [results, Try.results27, go_sem, d0, d1, d2, d3]; try rfl) rfl ?_
  exact ⟨rfl, hw5⟩
set_option maxHeartbeats 12800000 in
theorem rboot_dn (w : World) (v : Value) (l : List Fl) (room lasts : Int) (h : RD w v l) (kv : Value) (keep : List Int) (hk : LiesK encN 1 w kv keep) (hs : ∀ x ∈ l, 0 ≤ x.s ∧ x.s ≤ (x.b.length : Int)) (hbl : ∀ x ∈ l, x.b.length ≤ 100000000) (hl : l.length < 90000) :
    Calls Try.prog 27 #[rdv v room lasts true, kv] w fun e w' => ∃ u, e = .returned (rdv u room (-1) false) ∧ w'.ownsRow w.heap.size 66 3 u (btL keep l.length l).length ((btL keep l.length l).flatMap encR) ∧ Below w.heap.size w w' := by
  have L := Lib.hid h
  have KL := Lib.hid hk
  have HS := Lib.hid (And.intro hs hbl)
  have hkl := hk.len
  obtain ⟨ao, cap, rfl⟩ := h.1.shape
  obtain ⟨ka, kc, rfl⟩ := hk.shape
  have B1 := vstep w (.cells #[.slice ao l.length cap, .int .i64 room, .int .i64 lasts, .bool true] 29)
  have B2 := vstep (w.alloc (.cells #[.slice ao l.length cap, .int .i64 room, .int .i64 lasts, .bool true] 29)) (.cells #[.slice none 0 0, .int .i64 0, .int .i64 0, .bool false] 29)
  have B3 := vstep ((w.alloc (.cells #[.slice ao l.length cap, .int .i64 room, .int .i64 lasts, .bool true] 29)).alloc (.cells #[.slice none 0 0, .int .i64 0, .int .i64 0, .bool false] 29)) (.cells #[.slice none 0 0, .int .i64 room, .int .i64 (-1), .bool false] 29)
  have E0 := ((RB.new w (.slice ao l.length cap) room lasts true).step B2).step B3
  have E1 := (RB.new (w.alloc (.cells #[.slice ao l.length cap, .int .i64 room, .int .i64 lasts, .bool true] 29)) (.slice none 0 0) 0 0 false).step B3
  have E2 := RB.new ((w.alloc (.cells #[.slice ao l.length cap, .int .i64 room, .int .i64 lasts, .bool true] 29)).alloc (.cells #[.slice none 0 0, .int .i64 0, .int .i64 0, .bool false] 29)) (.slice none 0 0) room (-1) false
  simp only [World.size_alloc] at E1 E2
  have BB := B1.trans ((B2.trans (B3.mono B2.size)).mono B1.size)
  have D0 := (RB.new w (.slice ao l.length cap) room lasts true).step B2
  have C0 := Lib.hid D0.cells
  obtain ⟨full, hfull⟩ : ∃ z, btL keep l.length l = z := ⟨_, rfl⟩
  have FU := Lib.hid hfull
  have FL := Lib.hid (show full.length = l.length from by rw [← hfull, btL_len])
  rw [hfull]
  clear hfull
  obtain ⟨W0, hW0⟩ : ∃ y, ((w.alloc (.cells #[.slice ao l.length cap, .int .i64 room, .int .i64 lasts, .bool true] 29)).alloc (.cells #[.slice none 0 0, .int .i64 0, .int .i64 0, .bool false] 29)).alloc (.cells #[.slice none 0 0, .int .i64 room, .int .i64 (-1), .bool false] 29) = y := ⟨_, rfl⟩
  rw [hW0] at E0 E1 E2 BB
  have K0 := Lib.hid (show BW w W0 (.slice ao l.length cap) (full.take 0) room lasts (.slice none 0 0) from ⟨E0, E1, E2, World.ownsRow_nil _ _ _ _, BB⟩)
  have HW := Lib.hid hW0
  have hlm := h.1.len
  clear h hk hs hbl hW0 B1 B2 B3 E0 E1 E2 BB D0
  go_enter Try.func27, Try.ntmps27
  go_upto_region 1 with (fail)
  obtain ⟨c0, c1, c2, c3⟩ := C0.out
  go_upto_region 4 with (fail)
  rw [HW.out]
  rw [show w.heap.size + 1 + 1 = w.heap.size + 2 from rfl]
  clear c0 c1 c2 c3 C0
  go_wp2_with fail
  go_loopw [6] (fun sv wr => ∃ (i : Nat) (u : Value), sv = .int .i64 i ∧ i ≤ l.length ∧ Hid (BW w wr (.slice ao l.length cap) (full.take i) room lasts u)) (fun sv _ => l.length - (intOf sv).toNat)
  case atStart => exact ⟨0, _, rfl, Nat.zero_le _, K0⟩
  case round =>
    obtain ⟨i, u, rfl, hi, hK⟩ := hrel
    obtain ⟨ua, uc, rfl⟩ := own_shapeK hK.out.own
    have K := Lib.hid hK.out
    clear hK K0
    obtain ⟨m, hm⟩ : ∃ m, full.take i = m := ⟨_, rfl⟩
    rw [hm] at K
    have HM := Lib.hid hm
    have HML := Lib.hid (show m.length < 100000 from by
      rw [← hm, List.length_take, FL.out]
      omega)
    clear hm
    obtain ⟨c0, c1, c2, c3⟩ := K.out.g0.cells
    clear c1 c2 c3
    by_cases hlt : i < l.length
    · obtain ⟨g, o, x, rfl, hx, hg, a0, a1, a2⟩ := rec_at (L.out.1.keep K.out.bel (Nat.le_refl _)) hlt
      have HX := Lib.hid hx
      have hgw : g < w.heap.size := by
        obtain ⟨g', o', x', e, _, hg', _⟩ := rec_at L.out.1 hlt
        injection e with e
        injection e with e
        omega
      have hxm := List.mem_of_getElem? hx
      obtain ⟨h0s, hsl⟩ := HS.out.1 x hxm
      have hbl := HS.out.2 x hxm
      obtain ⟨hcp, hcm⟩ := lies_cap (L.out.2 x hxm)
      have BN := Lib.hid (btN_le (HS.out.1 x hxm) (moreK_nn keep i))
      have NX := Lib.hid (show full.take (i + 1) = m ++ [bt keep i x] from by rw [← FU.out, btL_full hx, FU.out, HM.out])
      obtain ⟨nn, hnn⟩ : ∃ nn, btN x (moreK keep i) = nn := ⟨_, rfl⟩
      have NN := Lib.hid hnn
      rw [hnn] at BN
      obtain ⟨x', hx'⟩ : ∃ x', bt keep i x = x' := ⟨_, rfl⟩
      rw [hx'] at NX
      have XP := Lib.hid (show x'.n = x.n ∧ x'.a = x.a ∧ x'.c = x.c ∧ x'.s = (nn : Int) ∧ x'.b.length = nn from by
        rw [← hx', ← hnn]
        exact ⟨rfl, rfl, rfl, rfl, cut_len (btN_le (HS.out.1 x hxm) (moreK_nn keep i)).1⟩)
      obtain ⟨xn, xa, xc, xb, xs⟩ := x'
      obtain ⟨bl, hbl2⟩ : ∃ bl, x.b.length = bl := ⟨_, rfl⟩
      rw [hbl2] at a1 BN hbl hcp hsl
      clear hx hxm hnn hx' hbl2
      by_cases hik : i < keep.length
      · obtain ⟨gk, ok, k, rfl, hkx, hgk, hkc⟩ := (KL.out.keep K.out.bel (Nat.le_refl _)).at' hik
        have k0 : wr.cell? ⟨gk, ok + i, none⟩ = some (.int .i64 k) := by simpa using hkc 0 (.int .i64 k) rfl
        have hmk : moreK keep i = max k 0 := by unfold moreK; rw [hkx]
        rw [hmk] at BN
        clear hkc hkx
        by_cases hk0 : 0 < k
        · have AA := fun z : Later wr => (show z.w.cell? ⟨w.heap.size, 0, none⟩ = some (.slice (some ⟨g, o, none⟩) l.length cap) ∧ z.w.cell? ⟨g, o + i * 3, none⟩ = some (.string x.n) ∧ z.w.cell? ⟨g, o + i * 3 + 1, none⟩ = some (.slice x.a bl x.c) ∧ z.w.cell? ⟨g, o + i * 3 + 2, none⟩ = some (.int .i64 x.s) ∧ z.w.cell? ⟨gk, ok + i, none⟩ = some (.int .i64 k) from
            ⟨(K.out.step z.below).g0.cells.1, (z.below.cell (p := ⟨g, o + i * 3, none⟩) hg).trans a0, (z.below.cell (p := ⟨g, o + i * 3 + 1, none⟩) hg).trans a1, (z.below.cell (p := ⟨g, o + i * 3 + 2, none⟩) hg).trans a2, (z.below.cell (p := ⟨gk, ok + i, none⟩) hgk).trans k0⟩)
          have Q0 := fun z => (AA z).1
          have Q2 := fun z => (AA z).2.2.1
          have Q4 := fun z => (AA z).2.2.2.2
          have AAH := Lib.hid AA
          clear AA
          by_cases hgt : (bl : Int) - x.s < k
          · have en : bl = nn := by have := BN.out.2; omega
            go_upto_region 9 with (fail)
            refine wp_region_later (by kernel_rfl) (by kernel_rfl) ?_
            repeat (go_big_quiet_step (fail))
            refine wpQuiet_nil ?_
            rintro _ ⟨z, rfl⟩
            have K2 := Lib.hid (K.out.step z.below)
            have A2 := Lib.hid (AAH.out z)
            clear Q0 Q2 Q4 AAH c0 a0 a1 a2 k0
            generalize z.w = W2 at *
            obtain ⟨c0, a0, a1, a2, k0⟩ := A2.out
            go_upto_region 12 with (fail)
            try simp only [en]
            clear c0 a0 a1 a2 k0
            have A := Lib.hid (show W2.cell? ⟨w.heap.size, 0, none⟩ = some (.slice (some ⟨g, o, none⟩) l.length cap) ∧ W2.cell? ⟨g, o + i * 3, none⟩ = some (.string x.n) ∧ W2.cell? ⟨g, o + i * 3 + 1, none⟩ = some (.slice x.a bl x.c) from ⟨A2.out.1, A2.out.2.1, A2.out.2.2.1⟩)
            have KD := K2.out.step (show Below W2.heap.size W2 W2.drew from (Below.refl _ _).drew)
            obtain ⟨a', c', w3, w4, q1, q2, q3, q4, q5, q6⟩ := put_file (W := W2.drew) ⟨xn, xa, xc, xb, xs⟩ KD.own KD.g2 KD.big HML.out
            have ap : ∀ j, (Value.slice ua m.length uc).ownBlock = some j → w.heap.size + 3 ≤ j := fun j e => (KD.own.lt j e).1
            have SP : ∀ {W'} (P : Nat → Prop), Far P W2.drew W' → (∀ k, P k → w.heap.size + 2 ≤ k) → (W'.cell? ⟨w.heap.size, 0, none⟩ = some (.slice (some ⟨g, o, none⟩) l.length cap) ∧ W'.cell? ⟨g, o + i * 3, none⟩ = some (.string x.n) ∧ W'.cell? ⟨g, o + i * 3 + 1, none⟩ = some (.slice x.a bl x.c)) := fun P hf hp =>
              ⟨hf.cell (p := ⟨w.heap.size, 0, none⟩) A.out.1 (fun q => absurd (hp _ q) (by show ¬ (w.heap.size + 2 ≤ w.heap.size); omega)), hf.cell (p := ⟨g, o + i * 3, none⟩) A.out.2.1 (fun q => absurd (hp _ q) (by show ¬ (w.heap.size + 2 ≤ g); omega)), hf.cell (p := ⟨g, o + i * 3 + 1, none⟩) A.out.2.2 (fun q => absurd (hp _ q) (by show ¬ (w.heap.size + 2 ≤ g); omega))⟩
            have S0 := Lib.hid (SP (fun _ => False) (Far.refl _ _) (fun k q => q.elim))
            obtain ⟨e1, e2, e3, e4, e5⟩ := XP.out
            dsimp only at e1 e2 e3 e4 e5
            dsimp only at q1
            obtain ⟨ml, hml⟩ : ∃ ml, (m ++ [(⟨xn, xa, xc, xb, xs⟩ : Fl)]).length = ml := ⟨_, rfl⟩
            rw [hml] at q1 q2
            have V1 := vstep W2.drew (.cells #[.string xn, .slice xa xb.length xc, .int .i64 xs] 66)
            have S1 := Lib.hid (SP (fun _ => False) (Far.of_below V1) (fun k q => q.elim))
            have S3 := Lib.hid (SP _ q6 (fun k q => by have := ap k q; omega))
            have S4 := Lib.hid (SP _ q5 (fun k q => by
              rcases q with q | q
              · have := ap k q; omega
              · omega))
            have FIN := Lib.hid (show BW w w4 (.slice (some ⟨g, o, none⟩) l.length cap) (full.take (i + 1)) room lasts (.slice a' ml c') from by
              rw [← hml, NX.out]
              refine ⟨KD.g0.far q5 ?_, KD.g1.far q5 ?_, q3, q4, KD.bel.trans (q5.below KD.bel.size ?_)⟩
              · rintro (e | e)
                · have := ap _ e; omega
                · omega
              · rintro (e | e)
                · have := ap _ e; omega
                · omega
              · rintro k (e | e)
                · have := ap _ e; omega
                · omega)
            have LV0 := Lib.hid (ldV27 (W := W2.drew) KD.g2.cells.1)
            have LV1 := Lib.hid (ldV27 ((KD.g2.step V1).cells.1))
            have BS := Lib.hid (bs27 W2.drew x.n x.a nn x.c (nn : Int))
            rw [e1, e2, e3, e4, e5] at q1 S1 LV1
            have HAP := Lib.hid q1
            have HST := Lib.hid q2
            have IX := Lib.hid (fun W => ix27 (W := W) (g := g) (o := o) (c := cap) hlt (by omega))
            have SLH := Lib.hid (fun W => slh33 W x.a bl x.c nn (by have := BN.out.1; omega) hcm)
            obtain ⟨W1, hW1⟩ : ∃ z, W2.drew.alloc (.cells #[.string x.n, .slice x.a nn x.c, .int .i64 (nn : Int)] 66) = z := ⟨_, rfl⟩
            rw [hW1] at S1 LV1 BS HAP
            clear hml q1 q2 q3 q4 q5 q6 V1 SP KD ap hW1 e1 e2 e3 e4 e5 en
            refine wp_region_held_drew (S := fun W => W.cell? ⟨w.heap.size, 0, none⟩ = some (.slice (some ⟨g, o, none⟩) l.length cap) ∧ W.cell? ⟨g, o + i * 3, none⟩ = some (.string x.n) ∧ W.cell? ⟨g, o + i * 3 + 1, none⟩ = some (.slice x.a bl x.c)) (by kernel_rfl) S0.out (fun _ => ?_)
            refine take_at (i := 0) 66 ?_ rfl rfl (by kernel_rfl) (by kernel_rfl) (by kernel_rfl) (fun _ _ _ h => h) (.inl ⟨rfl, ?_⟩) S0.out ?_
            rotate_left 1
            · intro w hSw; go_simp; try with_reducible rfl
            simp only [Act.put, List.setIfInBounds_toArray, List.set_cons_zero, List.set_cons_succ]
            refine take_at (i := 2) 68 ?_ rfl rfl (by kernel_rfl) (by kernel_rfl) (by kernel_rfl) (fun _ _ _ h => h) (.inl ⟨rfl, ?_⟩) S0.out ?_
            rotate_left 1
            · intro w hSw; go_simp; try with_reducible rfl
            simp only [Act.put, List.setIfInBounds_toArray, List.set_cons_zero, List.set_cons_succ]
            refine take_at (i := 3) 69 (.slice (some ⟨g, o, none⟩) l.length cap) rfl rfl (by kernel_rfl) (by kernel_rfl) (by kernel_rfl) (fun _ _ _ h => h) (yields_ld (.tmp 68) 27 (.pointer (some ⟨w.heap.size, 0, none⟩)) _ (fun W hS => ldV27 hS.1) rfl rfl rfl) S0.out ?_
            simp only [Act.put, List.setIfInBounds_toArray, List.set_cons_zero, List.set_cons_succ]
            refine take_at (i := 4) 70 ?_ rfl rfl (by kernel_rfl) (by kernel_rfl) (by kernel_rfl) (fun _ _ _ h => h) (.inl ⟨rfl, ?_⟩) S0.out ?_
            rotate_left 1
            · intro w hSw; go_simp; try with_reducible rfl
            simp only [Act.put, List.setIfInBounds_toArray, List.set_cons_zero, List.set_cons_succ]
            refine take_at (i := 5) 71 (.pointer (some ⟨g, o + i * 3, none⟩)) rfl rfl (by kernel_rfl) (by kernel_rfl) (by kernel_rfl) (fun _ _ _ h => h) (yields_ix (.tmp 69) (.tmp 70) 27 (.slice (some ⟨g, o, none⟩) l.length cap) (.int .i64 (i : Int)) _ (fun W => IX.out W) rfl rfl rfl rfl) S0.out ?_
            simp only [Act.put, List.setIfInBounds_toArray, List.set_cons_zero, List.set_cons_succ]
            refine take_at (i := 6) 72 ?_ rfl rfl (by kernel_rfl) (by kernel_rfl) (by kernel_rfl) (fun _ _ _ h => h) (.inl ⟨rfl, ?_⟩) S0.out ?_
            rotate_left 1
            · intro w hSw; go_simp; try with_reducible rfl
            simp only [Act.put, List.setIfInBounds_toArray, List.set_cons_zero, List.set_cons_succ]
            refine take_at (i := 7) 73 (.string x.n) rfl rfl (by kernel_rfl) (by kernel_rfl) (by kernel_rfl) (fun _ _ _ h => h) (yields_ld (.tmp 72) 9 (.pointer (some ⟨g, o + i * 3, none⟩)) _ (fun W hS => ldT9 hS.2.1) rfl rfl rfl) S0.out ?_
            simp only [Act.put, List.setIfInBounds_toArray, List.set_cons_zero, List.set_cons_succ]
            refine take_at (i := 8) 74 ?_ rfl rfl (by kernel_rfl) (by kernel_rfl) (by kernel_rfl) (fun _ _ _ h => h) (.inl ⟨rfl, ?_⟩) S0.out ?_
            rotate_left 1
            · intro w hSw; go_simp; try with_reducible rfl
            simp only [Act.put, List.setIfInBounds_toArray, List.set_cons_zero, List.set_cons_succ]
            refine take_at (i := 9) 75 (.slice (some ⟨g, o, none⟩) l.length cap) rfl rfl (by kernel_rfl) (by kernel_rfl) (by kernel_rfl) (fun _ _ _ h => h) (yields_ld (.tmp 74) 27 (.pointer (some ⟨w.heap.size, 0, none⟩)) _ (fun W hS => ldV27 hS.1) rfl rfl rfl) S0.out ?_
            simp only [Act.put, List.setIfInBounds_toArray, List.set_cons_zero, List.set_cons_succ]
            refine take_at (i := 10) 76 ?_ rfl rfl (by kernel_rfl) (by kernel_rfl) (by kernel_rfl) (fun _ _ _ h => h) (.inl ⟨rfl, ?_⟩) S0.out ?_
            rotate_left 1
            · intro w hSw; go_simp; try with_reducible rfl
            simp only [Act.put, List.setIfInBounds_toArray, List.set_cons_zero, List.set_cons_succ]
            refine take_at (i := 11) 77 (.pointer (some ⟨g, o + i * 3, none⟩)) rfl rfl (by kernel_rfl) (by kernel_rfl) (by kernel_rfl) (fun _ _ _ h => h) (yields_ix (.tmp 75) (.tmp 76) 27 (.slice (some ⟨g, o, none⟩) l.length cap) (.int .i64 (i : Int)) _ (fun W => IX.out W) rfl rfl rfl rfl) S0.out ?_
            simp only [Act.put, List.setIfInBounds_toArray, List.set_cons_zero, List.set_cons_succ]
            refine take_at (i := 12) 78 ?_ rfl rfl (by kernel_rfl) (by kernel_rfl) (by kernel_rfl) (fun _ _ _ h => h) (.inl ⟨rfl, ?_⟩) S0.out ?_
            rotate_left 1
            · intro w hSw; go_simp; try with_reducible rfl
            simp only [Act.put, List.setIfInBounds_toArray, List.set_cons_zero, List.set_cons_succ]
            refine take_at (i := 13) 79 (.slice x.a bl x.c) rfl rfl (by kernel_rfl) (by kernel_rfl) (by kernel_rfl) (fun _ _ _ h => h) (yields_ld (.tmp 78) 33 (.pointer (some ⟨g, o + i * 3 + 1, none⟩)) _ (fun W hS => ldV33 hS.2.2) rfl rfl rfl) S0.out ?_
            simp only [Act.put, List.setIfInBounds_toArray, List.set_cons_zero, List.set_cons_succ]
            refine take_at (i := 14) 80 ?_ rfl rfl (by kernel_rfl) (by kernel_rfl) (by kernel_rfl) (fun _ _ _ h => h) (.inl ⟨rfl, ?_⟩) S0.out ?_
            rotate_left 1
            · intro w hSw; go_simp; try with_reducible rfl
            simp only [Act.put, List.setIfInBounds_toArray, List.set_cons_zero, List.set_cons_succ]
            refine take_at (i := 15) 81 (.slice x.a nn x.c) rfl rfl (by kernel_rfl) (by kernel_rfl) (by kernel_rfl) (fun _ _ _ h => h) (yields_slh (.tmp 79) (.tmp 80) 33 (.slice x.a bl x.c) (.int .i64 (nn : Int)) _ (fun W => SLH.out W) rfl rfl rfl rfl) S0.out ?_
            simp only [Act.put, List.setIfInBounds_toArray, List.set_cons_zero, List.set_cons_succ]
            refine take_at (i := 16) 82 ?_ rfl rfl (by kernel_rfl) (by kernel_rfl) (by kernel_rfl) (fun _ _ _ h => h) (.inl ⟨rfl, ?_⟩) S0.out ?_
            rotate_left 1
            · intro w hSw; go_simp; try with_reducible rfl
            simp only [Act.put, List.setIfInBounds_toArray, List.set_cons_zero, List.set_cons_succ]
            refine take_at (i := 17) 83 ?_ rfl rfl (by kernel_rfl) (by kernel_rfl) (by kernel_rfl) (fun _ _ _ h => h) (.inl ⟨rfl, ?_⟩) S0.out ?_
            rotate_left 1
            · intro w hSw; go_simp; try with_reducible rfl
            simp only [Act.put, List.setIfInBounds_toArray, List.set_cons_zero, List.set_cons_succ]
            refine wpAnyH_ready (rs := [1, 18]) (by kernel_rfl) (by simp) (br_load (i := 1) 67 (.tmp 66) 27 _ (.slice ua m.length uc) rfl rfl rfl rfl rfl LV0.out S0.out (fun _ => ?_) (br_bslice (i := 18) 84 27 1 _ #[(0, .agg #[.string x.n, .slice x.a nn x.c, .int .i64 (nn : Int)])] _ W1 rfl rfl rfl rfl rfl BS.out S1.out (fun _ => ?_) AllReadyH.nil))
            · simp only [Act.put, List.setIfInBounds_toArray, List.set_cons_zero, List.set_cons_succ]
              refine wpAnyH_ready (rs := [18]) (by kernel_rfl) (by simp) (br_bslice (i := 18) 84 27 1 _ #[(0, .agg #[.string x.n, .slice x.a nn x.c, .int .i64 (nn : Int)])] _ W1 rfl rfl rfl rfl rfl BS.out S1.out (fun _ => ?_) AllReadyH.nil)
              simp only [Act.put, List.setIfInBounds_toArray, List.set_cons_zero, List.set_cons_succ]
              refine one_append (i := 19) 85 (.tmp 67) (.tmp 84) 27 27 rfl rfl (by kernel_rfl) rfl rfl _ _ _ w3 rfl rfl (HAP.out _) S3.out (fun _ => ?_)
              simp only [Act.put, List.setIfInBounds_toArray, List.set_cons_zero, List.set_cons_succ]
              refine take_at (i := 20) 86 ?_ rfl rfl (by kernel_rfl) (by kernel_rfl) (by kernel_rfl) (fun _ _ _ h => h) (.inl ⟨rfl, ?_⟩) S3.out ?_
              rotate_left 1
              · intro w hSw; go_simp; try with_reducible rfl
              simp only [Act.put, List.setIfInBounds_toArray, List.set_cons_zero, List.set_cons_succ]
              refine wpAnyH_ready (rs := [21]) (by kernel_rfl) (by simp) (br_store (i := 21) 27 (.tmp 86) (.tmp 85) (.pointer (some ⟨w.heap.size + 2, 0, none⟩)) (.slice a' ml c') w4 rfl rfl rfl rfl rfl rfl HST.out S4.out (fun _ => ?_) AllReadyH.nil)
              simp only [Act.put, List.setIfInBounds_toArray, List.set_cons_zero, List.set_cons_succ]
              refine wpAnyH_done (by kernel_rfl) ?_ _
              go_wp2
              go_roundw
              case rel => exact ⟨i + 1, _, by go_num, by omega, FIN⟩
              case measure => simp [intOf]; omega
            · simp only [Act.put, List.setIfInBounds_toArray, List.set_cons_zero, List.set_cons_succ]
              refine wpAnyH_ready (rs := [1]) (by kernel_rfl) (by simp) (br_load (i := 1) 67 (.tmp 66) 27 _ (.slice ua m.length uc) rfl rfl rfl rfl rfl LV1.out S1.out (fun _ => ?_) AllReadyH.nil)
              simp only [Act.put, List.setIfInBounds_toArray, List.set_cons_zero, List.set_cons_succ]
              refine one_append (i := 19) 85 (.tmp 67) (.tmp 84) 27 27 rfl rfl (by kernel_rfl) rfl rfl _ _ _ w3 rfl rfl (HAP.out _) S3.out (fun _ => ?_)
              simp only [Act.put, List.setIfInBounds_toArray, List.set_cons_zero, List.set_cons_succ]
              refine take_at (i := 20) 86 ?_ rfl rfl (by kernel_rfl) (by kernel_rfl) (by kernel_rfl) (fun _ _ _ h => h) (.inl ⟨rfl, ?_⟩) S3.out ?_
              rotate_left 1
              · intro w hSw; go_simp; try with_reducible rfl
              simp only [Act.put, List.setIfInBounds_toArray, List.set_cons_zero, List.set_cons_succ]
              refine wpAnyH_ready (rs := [21]) (by kernel_rfl) (by simp) (br_store (i := 21) 27 (.tmp 86) (.tmp 85) (.pointer (some ⟨w.heap.size + 2, 0, none⟩)) (.slice a' ml c') w4 rfl rfl rfl rfl rfl rfl HST.out S4.out (fun _ => ?_) AllReadyH.nil)
              simp only [Act.put, List.setIfInBounds_toArray, List.set_cons_zero, List.set_cons_succ]
              refine wpAnyH_done (by kernel_rfl) ?_ _
              go_wp2
              go_roundw
              case rel => exact ⟨i + 1, _, by go_num, by omega, FIN⟩
              case measure => simp [intOf]; omega
          · have en : x.s + k = (nn : Int) := by have := BN.out.2; omega
            go_upto_region 9 with (fail)
            refine wp_region_later (by kernel_rfl) (by kernel_rfl) ?_
            repeat (go_big_quiet_step (fail))
            refine wpQuiet_nil ?_
            rintro _ ⟨z, rfl⟩
            have K2 := Lib.hid (K.out.step z.below)
            have A2 := Lib.hid (AAH.out z)
            clear Q0 Q2 Q4 AAH c0 a0 a1 a2 k0
            generalize z.w = W2 at *
            obtain ⟨c0, a0, a1, a2, k0⟩ := A2.out
            go_upto_region 12 with (fail)
            clear c0 a0 a1 a2 k0
            have A := Lib.hid (show W2.cell? ⟨w.heap.size, 0, none⟩ = some (.slice (some ⟨g, o, none⟩) l.length cap) ∧ W2.cell? ⟨g, o + i * 3, none⟩ = some (.string x.n) ∧ W2.cell? ⟨g, o + i * 3 + 1, none⟩ = some (.slice x.a bl x.c) from ⟨A2.out.1, A2.out.2.1, A2.out.2.2.1⟩)
            have KD := K2.out.step (show Below W2.heap.size W2 W2.drew from (Below.refl _ _).drew)
            obtain ⟨a', c', w3, w4, q1, q2, q3, q4, q5, q6⟩ := put_file (W := W2.drew) ⟨xn, xa, xc, xb, xs⟩ KD.own KD.g2 KD.big HML.out
            have ap : ∀ j, (Value.slice ua m.length uc).ownBlock = some j → w.heap.size + 3 ≤ j := fun j e => (KD.own.lt j e).1
            have SP : ∀ {W'} (P : Nat → Prop), Far P W2.drew W' → (∀ k, P k → w.heap.size + 2 ≤ k) → (W'.cell? ⟨w.heap.size, 0, none⟩ = some (.slice (some ⟨g, o, none⟩) l.length cap) ∧ W'.cell? ⟨g, o + i * 3, none⟩ = some (.string x.n) ∧ W'.cell? ⟨g, o + i * 3 + 1, none⟩ = some (.slice x.a bl x.c)) := fun P hf hp =>
              ⟨hf.cell (p := ⟨w.heap.size, 0, none⟩) A.out.1 (fun q => absurd (hp _ q) (by show ¬ (w.heap.size + 2 ≤ w.heap.size); omega)), hf.cell (p := ⟨g, o + i * 3, none⟩) A.out.2.1 (fun q => absurd (hp _ q) (by show ¬ (w.heap.size + 2 ≤ g); omega)), hf.cell (p := ⟨g, o + i * 3 + 1, none⟩) A.out.2.2 (fun q => absurd (hp _ q) (by show ¬ (w.heap.size + 2 ≤ g); omega))⟩
            have S0 := Lib.hid (SP (fun _ => False) (Far.refl _ _) (fun k q => q.elim))
            obtain ⟨e1, e2, e3, e4, e5⟩ := XP.out
            dsimp only at e1 e2 e3 e4 e5
            dsimp only at q1
            obtain ⟨ml, hml⟩ : ∃ ml, (m ++ [(⟨xn, xa, xc, xb, xs⟩ : Fl)]).length = ml := ⟨_, rfl⟩
            rw [hml] at q1 q2
            have V1 := vstep W2.drew (.cells #[.string xn, .slice xa xb.length xc, .int .i64 xs] 66)
            have S1 := Lib.hid (SP (fun _ => False) (Far.of_below V1) (fun k q => q.elim))
            have S3 := Lib.hid (SP _ q6 (fun k q => by have := ap k q; omega))
            have S4 := Lib.hid (SP _ q5 (fun k q => by
              rcases q with q | q
              · have := ap k q; omega
              · omega))
            have FIN := Lib.hid (show BW w w4 (.slice (some ⟨g, o, none⟩) l.length cap) (full.take (i + 1)) room lasts (.slice a' ml c') from by
              rw [← hml, NX.out]
              refine ⟨KD.g0.far q5 ?_, KD.g1.far q5 ?_, q3, q4, KD.bel.trans (q5.below KD.bel.size ?_)⟩
              · rintro (e | e)
                · have := ap _ e; omega
                · omega
              · rintro (e | e)
                · have := ap _ e; omega
                · omega
              · rintro k (e | e)
                · have := ap _ e; omega
                · omega)
            have LV0 := Lib.hid (ldV27 (W := W2.drew) KD.g2.cells.1)
            have LV1 := Lib.hid (ldV27 ((KD.g2.step V1).cells.1))
            have BS := Lib.hid (bs27 W2.drew x.n x.a nn x.c (nn : Int))
            rw [e1, e2, e3, e4, e5] at q1 S1 LV1
            have HAP := Lib.hid q1
            have HST := Lib.hid q2
            have IX := Lib.hid (fun W => ix27 (W := W) (g := g) (o := o) (c := cap) hlt (by omega))
            have SLH := Lib.hid (fun W => slh33 W x.a bl x.c nn (by have := BN.out.1; omega) hcm)
            obtain ⟨W1, hW1⟩ : ∃ z, W2.drew.alloc (.cells #[.string x.n, .slice x.a nn x.c, .int .i64 (nn : Int)] 66) = z := ⟨_, rfl⟩
            rw [hW1] at S1 LV1 BS HAP
            clear hml q1 q2 q3 q4 q5 q6 V1 SP KD ap hW1 e1 e2 e3 e4 e5 en
            refine wp_region_held_drew (S := fun W => W.cell? ⟨w.heap.size, 0, none⟩ = some (.slice (some ⟨g, o, none⟩) l.length cap) ∧ W.cell? ⟨g, o + i * 3, none⟩ = some (.string x.n) ∧ W.cell? ⟨g, o + i * 3 + 1, none⟩ = some (.slice x.a bl x.c)) (by kernel_rfl) S0.out (fun _ => ?_)
            refine take_at (i := 0) 66 ?_ rfl rfl (by kernel_rfl) (by kernel_rfl) (by kernel_rfl) (fun _ _ _ h => h) (.inl ⟨rfl, ?_⟩) S0.out ?_
            rotate_left 1
            · intro w hSw; go_simp; try with_reducible rfl
            simp only [Act.put, List.setIfInBounds_toArray, List.set_cons_zero, List.set_cons_succ]
            refine take_at (i := 2) 68 ?_ rfl rfl (by kernel_rfl) (by kernel_rfl) (by kernel_rfl) (fun _ _ _ h => h) (.inl ⟨rfl, ?_⟩) S0.out ?_
            rotate_left 1
            · intro w hSw; go_simp; try with_reducible rfl
            simp only [Act.put, List.setIfInBounds_toArray, List.set_cons_zero, List.set_cons_succ]
            refine take_at (i := 3) 69 (.slice (some ⟨g, o, none⟩) l.length cap) rfl rfl (by kernel_rfl) (by kernel_rfl) (by kernel_rfl) (fun _ _ _ h => h) (yields_ld (.tmp 68) 27 (.pointer (some ⟨w.heap.size, 0, none⟩)) _ (fun W hS => ldV27 hS.1) rfl rfl rfl) S0.out ?_
            simp only [Act.put, List.setIfInBounds_toArray, List.set_cons_zero, List.set_cons_succ]
            refine take_at (i := 4) 70 ?_ rfl rfl (by kernel_rfl) (by kernel_rfl) (by kernel_rfl) (fun _ _ _ h => h) (.inl ⟨rfl, ?_⟩) S0.out ?_
            rotate_left 1
            · intro w hSw; go_simp; try with_reducible rfl
            simp only [Act.put, List.setIfInBounds_toArray, List.set_cons_zero, List.set_cons_succ]
            refine take_at (i := 5) 71 (.pointer (some ⟨g, o + i * 3, none⟩)) rfl rfl (by kernel_rfl) (by kernel_rfl) (by kernel_rfl) (fun _ _ _ h => h) (yields_ix (.tmp 69) (.tmp 70) 27 (.slice (some ⟨g, o, none⟩) l.length cap) (.int .i64 (i : Int)) _ (fun W => IX.out W) rfl rfl rfl rfl) S0.out ?_
            simp only [Act.put, List.setIfInBounds_toArray, List.set_cons_zero, List.set_cons_succ]
            refine take_at (i := 6) 72 ?_ rfl rfl (by kernel_rfl) (by kernel_rfl) (by kernel_rfl) (fun _ _ _ h => h) (.inl ⟨rfl, ?_⟩) S0.out ?_
            rotate_left 1
            · intro w hSw; go_simp; try with_reducible rfl
            simp only [Act.put, List.setIfInBounds_toArray, List.set_cons_zero, List.set_cons_succ]
            refine take_at (i := 7) 73 (.string x.n) rfl rfl (by kernel_rfl) (by kernel_rfl) (by kernel_rfl) (fun _ _ _ h => h) (yields_ld (.tmp 72) 9 (.pointer (some ⟨g, o + i * 3, none⟩)) _ (fun W hS => ldT9 hS.2.1) rfl rfl rfl) S0.out ?_
            simp only [Act.put, List.setIfInBounds_toArray, List.set_cons_zero, List.set_cons_succ]
            refine take_at (i := 8) 74 ?_ rfl rfl (by kernel_rfl) (by kernel_rfl) (by kernel_rfl) (fun _ _ _ h => h) (.inl ⟨rfl, ?_⟩) S0.out ?_
            rotate_left 1
            · intro w hSw; go_simp; try with_reducible rfl
            simp only [Act.put, List.setIfInBounds_toArray, List.set_cons_zero, List.set_cons_succ]
            refine take_at (i := 9) 75 (.slice (some ⟨g, o, none⟩) l.length cap) rfl rfl (by kernel_rfl) (by kernel_rfl) (by kernel_rfl) (fun _ _ _ h => h) (yields_ld (.tmp 74) 27 (.pointer (some ⟨w.heap.size, 0, none⟩)) _ (fun W hS => ldV27 hS.1) rfl rfl rfl) S0.out ?_
            simp only [Act.put, List.setIfInBounds_toArray, List.set_cons_zero, List.set_cons_succ]
            refine take_at (i := 10) 76 ?_ rfl rfl (by kernel_rfl) (by kernel_rfl) (by kernel_rfl) (fun _ _ _ h => h) (.inl ⟨rfl, ?_⟩) S0.out ?_
            rotate_left 1
            · intro w hSw; go_simp; try with_reducible rfl
            simp only [Act.put, List.setIfInBounds_toArray, List.set_cons_zero, List.set_cons_succ]
            refine take_at (i := 11) 77 (.pointer (some ⟨g, o + i * 3, none⟩)) rfl rfl (by kernel_rfl) (by kernel_rfl) (by kernel_rfl) (fun _ _ _ h => h) (yields_ix (.tmp 75) (.tmp 76) 27 (.slice (some ⟨g, o, none⟩) l.length cap) (.int .i64 (i : Int)) _ (fun W => IX.out W) rfl rfl rfl rfl) S0.out ?_
            simp only [Act.put, List.setIfInBounds_toArray, List.set_cons_zero, List.set_cons_succ]
            refine take_at (i := 12) 78 ?_ rfl rfl (by kernel_rfl) (by kernel_rfl) (by kernel_rfl) (fun _ _ _ h => h) (.inl ⟨rfl, ?_⟩) S0.out ?_
            rotate_left 1
            · intro w hSw; go_simp; try with_reducible rfl
            simp only [Act.put, List.setIfInBounds_toArray, List.set_cons_zero, List.set_cons_succ]
            refine take_at (i := 13) 79 (.slice x.a bl x.c) rfl rfl (by kernel_rfl) (by kernel_rfl) (by kernel_rfl) (fun _ _ _ h => h) (yields_ld (.tmp 78) 33 (.pointer (some ⟨g, o + i * 3 + 1, none⟩)) _ (fun W hS => ldV33 hS.2.2) rfl rfl rfl) S0.out ?_
            simp only [Act.put, List.setIfInBounds_toArray, List.set_cons_zero, List.set_cons_succ]
            refine take_at (i := 14) 80 ?_ rfl rfl (by kernel_rfl) (by kernel_rfl) (by kernel_rfl) (fun _ _ _ h => h) (.inl ⟨rfl, ?_⟩) S0.out ?_
            rotate_left 1
            · intro w hSw; go_simp; try with_reducible rfl
            simp only [Act.put, List.setIfInBounds_toArray, List.set_cons_zero, List.set_cons_succ]
            refine take_at (i := 15) 81 (.slice x.a nn x.c) rfl rfl (by kernel_rfl) (by kernel_rfl) (by kernel_rfl) (fun _ _ _ h => h) (yields_slh (.tmp 79) (.tmp 80) 33 (.slice x.a bl x.c) (.int .i64 (nn : Int)) _ (fun W => SLH.out W) rfl rfl rfl rfl) S0.out ?_
            simp only [Act.put, List.setIfInBounds_toArray, List.set_cons_zero, List.set_cons_succ]
            refine take_at (i := 16) 82 ?_ rfl rfl (by kernel_rfl) (by kernel_rfl) (by kernel_rfl) (fun _ _ _ h => h) (.inl ⟨rfl, ?_⟩) S0.out ?_
            rotate_left 1
            · intro w hSw; go_simp; try with_reducible rfl
            simp only [Act.put, List.setIfInBounds_toArray, List.set_cons_zero, List.set_cons_succ]
            refine take_at (i := 17) 83 ?_ rfl rfl (by kernel_rfl) (by kernel_rfl) (by kernel_rfl) (fun _ _ _ h => h) (.inl ⟨rfl, ?_⟩) S0.out ?_
            rotate_left 1
            · intro w hSw; go_simp; try with_reducible rfl
            simp only [Act.put, List.setIfInBounds_toArray, List.set_cons_zero, List.set_cons_succ]
            refine wpAnyH_ready (rs := [1, 18]) (by kernel_rfl) (by simp) (br_load (i := 1) 67 (.tmp 66) 27 _ (.slice ua m.length uc) rfl rfl rfl rfl rfl LV0.out S0.out (fun _ => ?_) (br_bslice (i := 18) 84 27 1 _ #[(0, .agg #[.string x.n, .slice x.a nn x.c, .int .i64 (nn : Int)])] _ W1 rfl rfl rfl rfl rfl BS.out S1.out (fun _ => ?_) AllReadyH.nil))
            · simp only [Act.put, List.setIfInBounds_toArray, List.set_cons_zero, List.set_cons_succ]
              refine wpAnyH_ready (rs := [18]) (by kernel_rfl) (by simp) (br_bslice (i := 18) 84 27 1 _ #[(0, .agg #[.string x.n, .slice x.a nn x.c, .int .i64 (nn : Int)])] _ W1 rfl rfl rfl rfl rfl BS.out S1.out (fun _ => ?_) AllReadyH.nil)
              simp only [Act.put, List.setIfInBounds_toArray, List.set_cons_zero, List.set_cons_succ]
              refine one_append (i := 19) 85 (.tmp 67) (.tmp 84) 27 27 rfl rfl (by kernel_rfl) rfl rfl _ _ _ w3 rfl rfl (HAP.out _) S3.out (fun _ => ?_)
              simp only [Act.put, List.setIfInBounds_toArray, List.set_cons_zero, List.set_cons_succ]
              refine take_at (i := 20) 86 ?_ rfl rfl (by kernel_rfl) (by kernel_rfl) (by kernel_rfl) (fun _ _ _ h => h) (.inl ⟨rfl, ?_⟩) S3.out ?_
              rotate_left 1
              · intro w hSw; go_simp; try with_reducible rfl
              simp only [Act.put, List.setIfInBounds_toArray, List.set_cons_zero, List.set_cons_succ]
              refine wpAnyH_ready (rs := [21]) (by kernel_rfl) (by simp) (br_store (i := 21) 27 (.tmp 86) (.tmp 85) (.pointer (some ⟨w.heap.size + 2, 0, none⟩)) (.slice a' ml c') w4 rfl rfl rfl rfl rfl rfl HST.out S4.out (fun _ => ?_) AllReadyH.nil)
              simp only [Act.put, List.setIfInBounds_toArray, List.set_cons_zero, List.set_cons_succ]
              refine wpAnyH_done (by kernel_rfl) ?_ _
              go_wp2
              go_roundw
              case rel => exact ⟨i + 1, _, by go_num, by omega, FIN⟩
              case measure => simp [intOf]; omega
            · simp only [Act.put, List.setIfInBounds_toArray, List.set_cons_zero, List.set_cons_succ]
              refine wpAnyH_ready (rs := [1]) (by kernel_rfl) (by simp) (br_load (i := 1) 67 (.tmp 66) 27 _ (.slice ua m.length uc) rfl rfl rfl rfl rfl LV1.out S1.out (fun _ => ?_) AllReadyH.nil)
              simp only [Act.put, List.setIfInBounds_toArray, List.set_cons_zero, List.set_cons_succ]
              refine one_append (i := 19) 85 (.tmp 67) (.tmp 84) 27 27 rfl rfl (by kernel_rfl) rfl rfl _ _ _ w3 rfl rfl (HAP.out _) S3.out (fun _ => ?_)
              simp only [Act.put, List.setIfInBounds_toArray, List.set_cons_zero, List.set_cons_succ]
              refine take_at (i := 20) 86 ?_ rfl rfl (by kernel_rfl) (by kernel_rfl) (by kernel_rfl) (fun _ _ _ h => h) (.inl ⟨rfl, ?_⟩) S3.out ?_
              rotate_left 1
              · intro w hSw; go_simp; try with_reducible rfl
              simp only [Act.put, List.setIfInBounds_toArray, List.set_cons_zero, List.set_cons_succ]
              refine wpAnyH_ready (rs := [21]) (by kernel_rfl) (by simp) (br_store (i := 21) 27 (.tmp 86) (.tmp 85) (.pointer (some ⟨w.heap.size + 2, 0, none⟩)) (.slice a' ml c') w4 rfl rfl rfl rfl rfl rfl HST.out S4.out (fun _ => ?_) AllReadyH.nil)
              simp only [Act.put, List.setIfInBounds_toArray, List.set_cons_zero, List.set_cons_succ]
              refine wpAnyH_done (by kernel_rfl) ?_ _
              go_wp2
              go_roundw
              case rel => exact ⟨i + 1, _, by go_num, by omega, FIN⟩
              case measure => simp [intOf]; omega
        · have en : x.s = (nn : Int) := by have := BN.out.2; omega
          rw [en] at a2
          go_upto_region 12 with (fail)
          have A := Lib.hid (show wr.cell? ⟨w.heap.size, 0, none⟩ = some (.slice (some ⟨g, o, none⟩) l.length cap) ∧ wr.cell? ⟨g, o + i * 3, none⟩ = some (.string x.n) ∧ wr.cell? ⟨g, o + i * 3 + 1, none⟩ = some (.slice x.a bl x.c) from ⟨c0, a0, a1⟩)
          have KD := K.out.step (show Below wr.heap.size wr wr.drew from (Below.refl _ _).drew)
          obtain ⟨a', c', w3, w4, q1, q2, q3, q4, q5, q6⟩ := put_file (W := wr.drew) ⟨xn, xa, xc, xb, xs⟩ KD.own KD.g2 KD.big HML.out
          have ap : ∀ j, (Value.slice ua m.length uc).ownBlock = some j → w.heap.size + 3 ≤ j := fun j e => (KD.own.lt j e).1
          have SP : ∀ {W'} (P : Nat → Prop), Far P wr.drew W' → (∀ k, P k → w.heap.size + 2 ≤ k) → (W'.cell? ⟨w.heap.size, 0, none⟩ = some (.slice (some ⟨g, o, none⟩) l.length cap) ∧ W'.cell? ⟨g, o + i * 3, none⟩ = some (.string x.n) ∧ W'.cell? ⟨g, o + i * 3 + 1, none⟩ = some (.slice x.a bl x.c)) := fun P hf hp =>
            ⟨hf.cell (p := ⟨w.heap.size, 0, none⟩) A.out.1 (fun q => absurd (hp _ q) (by show ¬ (w.heap.size + 2 ≤ w.heap.size); omega)), hf.cell (p := ⟨g, o + i * 3, none⟩) A.out.2.1 (fun q => absurd (hp _ q) (by show ¬ (w.heap.size + 2 ≤ g); omega)), hf.cell (p := ⟨g, o + i * 3 + 1, none⟩) A.out.2.2 (fun q => absurd (hp _ q) (by show ¬ (w.heap.size + 2 ≤ g); omega))⟩
          have S0 := Lib.hid (SP (fun _ => False) (Far.refl _ _) (fun k q => q.elim))
          obtain ⟨e1, e2, e3, e4, e5⟩ := XP.out
          dsimp only at e1 e2 e3 e4 e5
          dsimp only at q1
          obtain ⟨ml, hml⟩ : ∃ ml, (m ++ [(⟨xn, xa, xc, xb, xs⟩ : Fl)]).length = ml := ⟨_, rfl⟩
          rw [hml] at q1 q2
          have V1 := vstep wr.drew (.cells #[.string xn, .slice xa xb.length xc, .int .i64 xs] 66)
          have S1 := Lib.hid (SP (fun _ => False) (Far.of_below V1) (fun k q => q.elim))
          have S3 := Lib.hid (SP _ q6 (fun k q => by have := ap k q; omega))
          have S4 := Lib.hid (SP _ q5 (fun k q => by
            rcases q with q | q
            · have := ap k q; omega
            · omega))
          have FIN := Lib.hid (show BW w w4 (.slice (some ⟨g, o, none⟩) l.length cap) (full.take (i + 1)) room lasts (.slice a' ml c') from by
            rw [← hml, NX.out]
            refine ⟨KD.g0.far q5 ?_, KD.g1.far q5 ?_, q3, q4, KD.bel.trans (q5.below KD.bel.size ?_)⟩
            · rintro (e | e)
              · have := ap _ e; omega
              · omega
            · rintro (e | e)
              · have := ap _ e; omega
              · omega
            · rintro k (e | e)
              · have := ap _ e; omega
              · omega)
          have LV0 := Lib.hid (ldV27 (W := wr.drew) KD.g2.cells.1)
          have LV1 := Lib.hid (ldV27 ((KD.g2.step V1).cells.1))
          have BS := Lib.hid (bs27 wr.drew x.n x.a nn x.c (nn : Int))
          rw [e1, e2, e3, e4, e5] at q1 S1 LV1
          have HAP := Lib.hid q1
          have HST := Lib.hid q2
          have IX := Lib.hid (fun W => ix27 (W := W) (g := g) (o := o) (c := cap) hlt (by omega))
          have SLH := Lib.hid (fun W => slh33 W x.a bl x.c nn (by have := BN.out.1; omega) hcm)
          obtain ⟨W1, hW1⟩ : ∃ z, wr.drew.alloc (.cells #[.string x.n, .slice x.a nn x.c, .int .i64 (nn : Int)] 66) = z := ⟨_, rfl⟩
          rw [hW1] at S1 LV1 BS HAP
          clear hml q1 q2 q3 q4 q5 q6 V1 SP KD ap hW1 e1 e2 e3 e4 e5 en
          clear c0 a0 a1 a2
          refine wp_region_held_drew (S := fun W => W.cell? ⟨w.heap.size, 0, none⟩ = some (.slice (some ⟨g, o, none⟩) l.length cap) ∧ W.cell? ⟨g, o + i * 3, none⟩ = some (.string x.n) ∧ W.cell? ⟨g, o + i * 3 + 1, none⟩ = some (.slice x.a bl x.c)) (by kernel_rfl) S0.out (fun _ => ?_)
          refine take_at (i := 0) 66 ?_ rfl rfl (by kernel_rfl) (by kernel_rfl) (by kernel_rfl) (fun _ _ _ h => h) (.inl ⟨rfl, ?_⟩) S0.out ?_
          rotate_left 1
          · intro w hSw; go_simp; try with_reducible rfl
          simp only [Act.put, List.setIfInBounds_toArray, List.set_cons_zero, List.set_cons_succ]
          refine take_at (i := 2) 68 ?_ rfl rfl (by kernel_rfl) (by kernel_rfl) (by kernel_rfl) (fun _ _ _ h => h) (.inl ⟨rfl, ?_⟩) S0.out ?_
          rotate_left 1
          · intro w hSw; go_simp; try with_reducible rfl
          simp only [Act.put, List.setIfInBounds_toArray, List.set_cons_zero, List.set_cons_succ]
          refine take_at (i := 3) 69 (.slice (some ⟨g, o, none⟩) l.length cap) rfl rfl (by kernel_rfl) (by kernel_rfl) (by kernel_rfl) (fun _ _ _ h => h) (yields_ld (.tmp 68) 27 (.pointer (some ⟨w.heap.size, 0, none⟩)) _ (fun W hS => ldV27 hS.1) rfl rfl rfl) S0.out ?_
          simp only [Act.put, List.setIfInBounds_toArray, List.set_cons_zero, List.set_cons_succ]
          refine take_at (i := 4) 70 ?_ rfl rfl (by kernel_rfl) (by kernel_rfl) (by kernel_rfl) (fun _ _ _ h => h) (.inl ⟨rfl, ?_⟩) S0.out ?_
          rotate_left 1
          · intro w hSw; go_simp; try with_reducible rfl
          simp only [Act.put, List.setIfInBounds_toArray, List.set_cons_zero, List.set_cons_succ]
          refine take_at (i := 5) 71 (.pointer (some ⟨g, o + i * 3, none⟩)) rfl rfl (by kernel_rfl) (by kernel_rfl) (by kernel_rfl) (fun _ _ _ h => h) (yields_ix (.tmp 69) (.tmp 70) 27 (.slice (some ⟨g, o, none⟩) l.length cap) (.int .i64 (i : Int)) _ (fun W => IX.out W) rfl rfl rfl rfl) S0.out ?_
          simp only [Act.put, List.setIfInBounds_toArray, List.set_cons_zero, List.set_cons_succ]
          refine take_at (i := 6) 72 ?_ rfl rfl (by kernel_rfl) (by kernel_rfl) (by kernel_rfl) (fun _ _ _ h => h) (.inl ⟨rfl, ?_⟩) S0.out ?_
          rotate_left 1
          · intro w hSw; go_simp; try with_reducible rfl
          simp only [Act.put, List.setIfInBounds_toArray, List.set_cons_zero, List.set_cons_succ]
          refine take_at (i := 7) 73 (.string x.n) rfl rfl (by kernel_rfl) (by kernel_rfl) (by kernel_rfl) (fun _ _ _ h => h) (yields_ld (.tmp 72) 9 (.pointer (some ⟨g, o + i * 3, none⟩)) _ (fun W hS => ldT9 hS.2.1) rfl rfl rfl) S0.out ?_
          simp only [Act.put, List.setIfInBounds_toArray, List.set_cons_zero, List.set_cons_succ]
          refine take_at (i := 8) 74 ?_ rfl rfl (by kernel_rfl) (by kernel_rfl) (by kernel_rfl) (fun _ _ _ h => h) (.inl ⟨rfl, ?_⟩) S0.out ?_
          rotate_left 1
          · intro w hSw; go_simp; try with_reducible rfl
          simp only [Act.put, List.setIfInBounds_toArray, List.set_cons_zero, List.set_cons_succ]
          refine take_at (i := 9) 75 (.slice (some ⟨g, o, none⟩) l.length cap) rfl rfl (by kernel_rfl) (by kernel_rfl) (by kernel_rfl) (fun _ _ _ h => h) (yields_ld (.tmp 74) 27 (.pointer (some ⟨w.heap.size, 0, none⟩)) _ (fun W hS => ldV27 hS.1) rfl rfl rfl) S0.out ?_
          simp only [Act.put, List.setIfInBounds_toArray, List.set_cons_zero, List.set_cons_succ]
          refine take_at (i := 10) 76 ?_ rfl rfl (by kernel_rfl) (by kernel_rfl) (by kernel_rfl) (fun _ _ _ h => h) (.inl ⟨rfl, ?_⟩) S0.out ?_
          rotate_left 1
          · intro w hSw; go_simp; try with_reducible rfl
          simp only [Act.put, List.setIfInBounds_toArray, List.set_cons_zero, List.set_cons_succ]
          refine take_at (i := 11) 77 (.pointer (some ⟨g, o + i * 3, none⟩)) rfl rfl (by kernel_rfl) (by kernel_rfl) (by kernel_rfl) (fun _ _ _ h => h) (yields_ix (.tmp 75) (.tmp 76) 27 (.slice (some ⟨g, o, none⟩) l.length cap) (.int .i64 (i : Int)) _ (fun W => IX.out W) rfl rfl rfl rfl) S0.out ?_
          simp only [Act.put, List.setIfInBounds_toArray, List.set_cons_zero, List.set_cons_succ]
          refine take_at (i := 12) 78 ?_ rfl rfl (by kernel_rfl) (by kernel_rfl) (by kernel_rfl) (fun _ _ _ h => h) (.inl ⟨rfl, ?_⟩) S0.out ?_
          rotate_left 1
          · intro w hSw; go_simp; try with_reducible rfl
          simp only [Act.put, List.setIfInBounds_toArray, List.set_cons_zero, List.set_cons_succ]
          refine take_at (i := 13) 79 (.slice x.a bl x.c) rfl rfl (by kernel_rfl) (by kernel_rfl) (by kernel_rfl) (fun _ _ _ h => h) (yields_ld (.tmp 78) 33 (.pointer (some ⟨g, o + i * 3 + 1, none⟩)) _ (fun W hS => ldV33 hS.2.2) rfl rfl rfl) S0.out ?_
          simp only [Act.put, List.setIfInBounds_toArray, List.set_cons_zero, List.set_cons_succ]
          refine take_at (i := 14) 80 ?_ rfl rfl (by kernel_rfl) (by kernel_rfl) (by kernel_rfl) (fun _ _ _ h => h) (.inl ⟨rfl, ?_⟩) S0.out ?_
          rotate_left 1
          · intro w hSw; go_simp; try with_reducible rfl
          simp only [Act.put, List.setIfInBounds_toArray, List.set_cons_zero, List.set_cons_succ]
          refine take_at (i := 15) 81 (.slice x.a nn x.c) rfl rfl (by kernel_rfl) (by kernel_rfl) (by kernel_rfl) (fun _ _ _ h => h) (yields_slh (.tmp 79) (.tmp 80) 33 (.slice x.a bl x.c) (.int .i64 (nn : Int)) _ (fun W => SLH.out W) rfl rfl rfl rfl) S0.out ?_
          simp only [Act.put, List.setIfInBounds_toArray, List.set_cons_zero, List.set_cons_succ]
          refine take_at (i := 16) 82 ?_ rfl rfl (by kernel_rfl) (by kernel_rfl) (by kernel_rfl) (fun _ _ _ h => h) (.inl ⟨rfl, ?_⟩) S0.out ?_
          rotate_left 1
          · intro w hSw; go_simp; try with_reducible rfl
          simp only [Act.put, List.setIfInBounds_toArray, List.set_cons_zero, List.set_cons_succ]
          refine take_at (i := 17) 83 ?_ rfl rfl (by kernel_rfl) (by kernel_rfl) (by kernel_rfl) (fun _ _ _ h => h) (.inl ⟨rfl, ?_⟩) S0.out ?_
          rotate_left 1
          · intro w hSw; go_simp; try with_reducible rfl
          simp only [Act.put, List.setIfInBounds_toArray, List.set_cons_zero, List.set_cons_succ]
          refine wpAnyH_ready (rs := [1, 18]) (by kernel_rfl) (by simp) (br_load (i := 1) 67 (.tmp 66) 27 _ (.slice ua m.length uc) rfl rfl rfl rfl rfl LV0.out S0.out (fun _ => ?_) (br_bslice (i := 18) 84 27 1 _ #[(0, .agg #[.string x.n, .slice x.a nn x.c, .int .i64 (nn : Int)])] _ W1 rfl rfl rfl rfl rfl BS.out S1.out (fun _ => ?_) AllReadyH.nil))
          · simp only [Act.put, List.setIfInBounds_toArray, List.set_cons_zero, List.set_cons_succ]
            refine wpAnyH_ready (rs := [18]) (by kernel_rfl) (by simp) (br_bslice (i := 18) 84 27 1 _ #[(0, .agg #[.string x.n, .slice x.a nn x.c, .int .i64 (nn : Int)])] _ W1 rfl rfl rfl rfl rfl BS.out S1.out (fun _ => ?_) AllReadyH.nil)
            simp only [Act.put, List.setIfInBounds_toArray, List.set_cons_zero, List.set_cons_succ]
            refine one_append (i := 19) 85 (.tmp 67) (.tmp 84) 27 27 rfl rfl (by kernel_rfl) rfl rfl _ _ _ w3 rfl rfl (HAP.out _) S3.out (fun _ => ?_)
            simp only [Act.put, List.setIfInBounds_toArray, List.set_cons_zero, List.set_cons_succ]
            refine take_at (i := 20) 86 ?_ rfl rfl (by kernel_rfl) (by kernel_rfl) (by kernel_rfl) (fun _ _ _ h => h) (.inl ⟨rfl, ?_⟩) S3.out ?_
            rotate_left 1
            · intro w hSw; go_simp; try with_reducible rfl
            simp only [Act.put, List.setIfInBounds_toArray, List.set_cons_zero, List.set_cons_succ]
            refine wpAnyH_ready (rs := [21]) (by kernel_rfl) (by simp) (br_store (i := 21) 27 (.tmp 86) (.tmp 85) (.pointer (some ⟨w.heap.size + 2, 0, none⟩)) (.slice a' ml c') w4 rfl rfl rfl rfl rfl rfl HST.out S4.out (fun _ => ?_) AllReadyH.nil)
            simp only [Act.put, List.setIfInBounds_toArray, List.set_cons_zero, List.set_cons_succ]
            refine wpAnyH_done (by kernel_rfl) ?_ _
            go_wp2
            go_roundw
            case rel => exact ⟨i + 1, _, by go_num, by omega, FIN⟩
            case measure => simp [intOf]; omega
          · simp only [Act.put, List.setIfInBounds_toArray, List.set_cons_zero, List.set_cons_succ]
            refine wpAnyH_ready (rs := [1]) (by kernel_rfl) (by simp) (br_load (i := 1) 67 (.tmp 66) 27 _ (.slice ua m.length uc) rfl rfl rfl rfl rfl LV1.out S1.out (fun _ => ?_) AllReadyH.nil)
            simp only [Act.put, List.setIfInBounds_toArray, List.set_cons_zero, List.set_cons_succ]
            refine one_append (i := 19) 85 (.tmp 67) (.tmp 84) 27 27 rfl rfl (by kernel_rfl) rfl rfl _ _ _ w3 rfl rfl (HAP.out _) S3.out (fun _ => ?_)
            simp only [Act.put, List.setIfInBounds_toArray, List.set_cons_zero, List.set_cons_succ]
            refine take_at (i := 20) 86 ?_ rfl rfl (by kernel_rfl) (by kernel_rfl) (by kernel_rfl) (fun _ _ _ h => h) (.inl ⟨rfl, ?_⟩) S3.out ?_
            rotate_left 1
            · intro w hSw; go_simp; try with_reducible rfl
            simp only [Act.put, List.setIfInBounds_toArray, List.set_cons_zero, List.set_cons_succ]
            refine wpAnyH_ready (rs := [21]) (by kernel_rfl) (by simp) (br_store (i := 21) 27 (.tmp 86) (.tmp 85) (.pointer (some ⟨w.heap.size + 2, 0, none⟩)) (.slice a' ml c') w4 rfl rfl rfl rfl rfl rfl HST.out S4.out (fun _ => ?_) AllReadyH.nil)
            simp only [Act.put, List.setIfInBounds_toArray, List.set_cons_zero, List.set_cons_succ]
            refine wpAnyH_done (by kernel_rfl) ?_ _
            go_wp2
            go_roundw
            case rel => exact ⟨i + 1, _, by go_num, by omega, FIN⟩
            case measure => simp [intOf]; omega
      · have hmk : moreK keep i = 0 := by unfold moreK; rw [List.getElem?_eq_none (by omega)]
        rw [hmk] at BN
        have en : x.s = (nn : Int) := by have := BN.out.2; omega
        have hgi : ¬ ((i : Int) < (keep.length : Int)) := by omega
        rw [en] at a2
        go_upto_region 12 with (fail)
        have A := Lib.hid (show wr.cell? ⟨w.heap.size, 0, none⟩ = some (.slice (some ⟨g, o, none⟩) l.length cap) ∧ wr.cell? ⟨g, o + i * 3, none⟩ = some (.string x.n) ∧ wr.cell? ⟨g, o + i * 3 + 1, none⟩ = some (.slice x.a bl x.c) from ⟨c0, a0, a1⟩)
        have KD := K.out.step (show Below wr.heap.size wr wr.drew from (Below.refl _ _).drew)
        obtain ⟨a', c', w3, w4, q1, q2, q3, q4, q5, q6⟩ := put_file (W := wr.drew) ⟨xn, xa, xc, xb, xs⟩ KD.own KD.g2 KD.big HML.out
        have ap : ∀ j, (Value.slice ua m.length uc).ownBlock = some j → w.heap.size + 3 ≤ j := fun j e => (KD.own.lt j e).1
        have SP : ∀ {W'} (P : Nat → Prop), Far P wr.drew W' → (∀ k, P k → w.heap.size + 2 ≤ k) → (W'.cell? ⟨w.heap.size, 0, none⟩ = some (.slice (some ⟨g, o, none⟩) l.length cap) ∧ W'.cell? ⟨g, o + i * 3, none⟩ = some (.string x.n) ∧ W'.cell? ⟨g, o + i * 3 + 1, none⟩ = some (.slice x.a bl x.c)) := fun P hf hp =>
          ⟨hf.cell (p := ⟨w.heap.size, 0, none⟩) A.out.1 (fun q => absurd (hp _ q) (by show ¬ (w.heap.size + 2 ≤ w.heap.size); omega)), hf.cell (p := ⟨g, o + i * 3, none⟩) A.out.2.1 (fun q => absurd (hp _ q) (by show ¬ (w.heap.size + 2 ≤ g); omega)), hf.cell (p := ⟨g, o + i * 3 + 1, none⟩) A.out.2.2 (fun q => absurd (hp _ q) (by show ¬ (w.heap.size + 2 ≤ g); omega))⟩
        have S0 := Lib.hid (SP (fun _ => False) (Far.refl _ _) (fun k q => q.elim))
        obtain ⟨e1, e2, e3, e4, e5⟩ := XP.out
        dsimp only at e1 e2 e3 e4 e5
        dsimp only at q1
        obtain ⟨ml, hml⟩ : ∃ ml, (m ++ [(⟨xn, xa, xc, xb, xs⟩ : Fl)]).length = ml := ⟨_, rfl⟩
        rw [hml] at q1 q2
        have V1 := vstep wr.drew (.cells #[.string xn, .slice xa xb.length xc, .int .i64 xs] 66)
        have S1 := Lib.hid (SP (fun _ => False) (Far.of_below V1) (fun k q => q.elim))
        have S3 := Lib.hid (SP _ q6 (fun k q => by have := ap k q; omega))
        have S4 := Lib.hid (SP _ q5 (fun k q => by
          rcases q with q | q
          · have := ap k q; omega
          · omega))
        have FIN := Lib.hid (show BW w w4 (.slice (some ⟨g, o, none⟩) l.length cap) (full.take (i + 1)) room lasts (.slice a' ml c') from by
          rw [← hml, NX.out]
          refine ⟨KD.g0.far q5 ?_, KD.g1.far q5 ?_, q3, q4, KD.bel.trans (q5.below KD.bel.size ?_)⟩
          · rintro (e | e)
            · have := ap _ e; omega
            · omega
          · rintro (e | e)
            · have := ap _ e; omega
            · omega
          · rintro k (e | e)
            · have := ap _ e; omega
            · omega)
        have LV0 := Lib.hid (ldV27 (W := wr.drew) KD.g2.cells.1)
        have LV1 := Lib.hid (ldV27 ((KD.g2.step V1).cells.1))
        have BS := Lib.hid (bs27 wr.drew x.n x.a nn x.c (nn : Int))
        rw [e1, e2, e3, e4, e5] at q1 S1 LV1
        have HAP := Lib.hid q1
        have HST := Lib.hid q2
        have IX := Lib.hid (fun W => ix27 (W := W) (g := g) (o := o) (c := cap) hlt (by omega))
        have SLH := Lib.hid (fun W => slh33 W x.a bl x.c nn (by have := BN.out.1; omega) hcm)
        obtain ⟨W1, hW1⟩ : ∃ z, wr.drew.alloc (.cells #[.string x.n, .slice x.a nn x.c, .int .i64 (nn : Int)] 66) = z := ⟨_, rfl⟩
        rw [hW1] at S1 LV1 BS HAP
        clear hml q1 q2 q3 q4 q5 q6 V1 SP KD ap hW1 e1 e2 e3 e4 e5 en
        clear c0 a0 a1 a2
        refine wp_region_held_drew (S := fun W => W.cell? ⟨w.heap.size, 0, none⟩ = some (.slice (some ⟨g, o, none⟩) l.length cap) ∧ W.cell? ⟨g, o + i * 3, none⟩ = some (.string x.n) ∧ W.cell? ⟨g, o + i * 3 + 1, none⟩ = some (.slice x.a bl x.c)) (by kernel_rfl) S0.out (fun _ => ?_)
        refine take_at (i := 0) 66 ?_ rfl rfl (by kernel_rfl) (by kernel_rfl) (by kernel_rfl) (fun _ _ _ h => h) (.inl ⟨rfl, ?_⟩) S0.out ?_
        rotate_left 1
        · intro w hSw; go_simp; try with_reducible rfl
        simp only [Act.put, List.setIfInBounds_toArray, List.set_cons_zero, List.set_cons_succ]
        refine take_at (i := 2) 68 ?_ rfl rfl (by kernel_rfl) (by kernel_rfl) (by kernel_rfl) (fun _ _ _ h => h) (.inl ⟨rfl, ?_⟩) S0.out ?_
        rotate_left 1
        · intro w hSw; go_simp; try with_reducible rfl
        simp only [Act.put, List.setIfInBounds_toArray, List.set_cons_zero, List.set_cons_succ]
        refine take_at (i := 3) 69 (.slice (some ⟨g, o, none⟩) l.length cap) rfl rfl (by kernel_rfl) (by kernel_rfl) (by kernel_rfl) (fun _ _ _ h => h) (yields_ld (.tmp 68) 27 (.pointer (some ⟨w.heap.size, 0, none⟩)) _ (fun W hS => ldV27 hS.1) rfl rfl rfl) S0.out ?_
        simp only [Act.put, List.setIfInBounds_toArray, List.set_cons_zero, List.set_cons_succ]
        refine take_at (i := 4) 70 ?_ rfl rfl (by kernel_rfl) (by kernel_rfl) (by kernel_rfl) (fun _ _ _ h => h) (.inl ⟨rfl, ?_⟩) S0.out ?_
        rotate_left 1
        · intro w hSw; go_simp; try with_reducible rfl
        simp only [Act.put, List.setIfInBounds_toArray, List.set_cons_zero, List.set_cons_succ]
        refine take_at (i := 5) 71 (.pointer (some ⟨g, o + i * 3, none⟩)) rfl rfl (by kernel_rfl) (by kernel_rfl) (by kernel_rfl) (fun _ _ _ h => h) (yields_ix (.tmp 69) (.tmp 70) 27 (.slice (some ⟨g, o, none⟩) l.length cap) (.int .i64 (i : Int)) _ (fun W => IX.out W) rfl rfl rfl rfl) S0.out ?_
        simp only [Act.put, List.setIfInBounds_toArray, List.set_cons_zero, List.set_cons_succ]
        refine take_at (i := 6) 72 ?_ rfl rfl (by kernel_rfl) (by kernel_rfl) (by kernel_rfl) (fun _ _ _ h => h) (.inl ⟨rfl, ?_⟩) S0.out ?_
        rotate_left 1
        · intro w hSw; go_simp; try with_reducible rfl
        simp only [Act.put, List.setIfInBounds_toArray, List.set_cons_zero, List.set_cons_succ]
        refine take_at (i := 7) 73 (.string x.n) rfl rfl (by kernel_rfl) (by kernel_rfl) (by kernel_rfl) (fun _ _ _ h => h) (yields_ld (.tmp 72) 9 (.pointer (some ⟨g, o + i * 3, none⟩)) _ (fun W hS => ldT9 hS.2.1) rfl rfl rfl) S0.out ?_
        simp only [Act.put, List.setIfInBounds_toArray, List.set_cons_zero, List.set_cons_succ]
        refine take_at (i := 8) 74 ?_ rfl rfl (by kernel_rfl) (by kernel_rfl) (by kernel_rfl) (fun _ _ _ h => h) (.inl ⟨rfl, ?_⟩) S0.out ?_
        rotate_left 1
        · intro w hSw; go_simp; try with_reducible rfl
        simp only [Act.put, List.setIfInBounds_toArray, List.set_cons_zero, List.set_cons_succ]
        refine take_at (i := 9) 75 (.slice (some ⟨g, o, none⟩) l.length cap) rfl rfl (by kernel_rfl) (by kernel_rfl) (by kernel_rfl) (fun _ _ _ h => h) (yields_ld (.tmp 74) 27 (.pointer (some ⟨w.heap.size, 0, none⟩)) _ (fun W hS => ldV27 hS.1) rfl rfl rfl) S0.out ?_
        simp only [Act.put, List.setIfInBounds_toArray, List.set_cons_zero, List.set_cons_succ]
        refine take_at (i := 10) 76 ?_ rfl rfl (by kernel_rfl) (by kernel_rfl) (by kernel_rfl) (fun _ _ _ h => h) (.inl ⟨rfl, ?_⟩) S0.out ?_
        rotate_left 1
        · intro w hSw; go_simp; try with_reducible rfl
        simp only [Act.put, List.setIfInBounds_toArray, List.set_cons_zero, List.set_cons_succ]
        refine take_at (i := 11) 77 (.pointer (some ⟨g, o + i * 3, none⟩)) rfl rfl (by kernel_rfl) (by kernel_rfl) (by kernel_rfl) (fun _ _ _ h => h) (yields_ix (.tmp 75) (.tmp 76) 27 (.slice (some ⟨g, o, none⟩) l.length cap) (.int .i64 (i : Int)) _ (fun W => IX.out W) rfl rfl rfl rfl) S0.out ?_
        simp only [Act.put, List.setIfInBounds_toArray, List.set_cons_zero, List.set_cons_succ]
        refine take_at (i := 12) 78 ?_ rfl rfl (by kernel_rfl) (by kernel_rfl) (by kernel_rfl) (fun _ _ _ h => h) (.inl ⟨rfl, ?_⟩) S0.out ?_
        rotate_left 1
        · intro w hSw; go_simp; try with_reducible rfl
        simp only [Act.put, List.setIfInBounds_toArray, List.set_cons_zero, List.set_cons_succ]
        refine take_at (i := 13) 79 (.slice x.a bl x.c) rfl rfl (by kernel_rfl) (by kernel_rfl) (by kernel_rfl) (fun _ _ _ h => h) (yields_ld (.tmp 78) 33 (.pointer (some ⟨g, o + i * 3 + 1, none⟩)) _ (fun W hS => ldV33 hS.2.2) rfl rfl rfl) S0.out ?_
        simp only [Act.put, List.setIfInBounds_toArray, List.set_cons_zero, List.set_cons_succ]
        refine take_at (i := 14) 80 ?_ rfl rfl (by kernel_rfl) (by kernel_rfl) (by kernel_rfl) (fun _ _ _ h => h) (.inl ⟨rfl, ?_⟩) S0.out ?_
        rotate_left 1
        · intro w hSw; go_simp; try with_reducible rfl
        simp only [Act.put, List.setIfInBounds_toArray, List.set_cons_zero, List.set_cons_succ]
        refine take_at (i := 15) 81 (.slice x.a nn x.c) rfl rfl (by kernel_rfl) (by kernel_rfl) (by kernel_rfl) (fun _ _ _ h => h) (yields_slh (.tmp 79) (.tmp 80) 33 (.slice x.a bl x.c) (.int .i64 (nn : Int)) _ (fun W => SLH.out W) rfl rfl rfl rfl) S0.out ?_
        simp only [Act.put, List.setIfInBounds_toArray, List.set_cons_zero, List.set_cons_succ]
        refine take_at (i := 16) 82 ?_ rfl rfl (by kernel_rfl) (by kernel_rfl) (by kernel_rfl) (fun _ _ _ h => h) (.inl ⟨rfl, ?_⟩) S0.out ?_
        rotate_left 1
        · intro w hSw; go_simp; try with_reducible rfl
        simp only [Act.put, List.setIfInBounds_toArray, List.set_cons_zero, List.set_cons_succ]
        refine take_at (i := 17) 83 ?_ rfl rfl (by kernel_rfl) (by kernel_rfl) (by kernel_rfl) (fun _ _ _ h => h) (.inl ⟨rfl, ?_⟩) S0.out ?_
        rotate_left 1
        · intro w hSw; go_simp; try with_reducible rfl
        simp only [Act.put, List.setIfInBounds_toArray, List.set_cons_zero, List.set_cons_succ]
        refine wpAnyH_ready (rs := [1, 18]) (by kernel_rfl) (by simp) (br_load (i := 1) 67 (.tmp 66) 27 _ (.slice ua m.length uc) rfl rfl rfl rfl rfl LV0.out S0.out (fun _ => ?_) (br_bslice (i := 18) 84 27 1 _ #[(0, .agg #[.string x.n, .slice x.a nn x.c, .int .i64 (nn : Int)])] _ W1 rfl rfl rfl rfl rfl BS.out S1.out (fun _ => ?_) AllReadyH.nil))
        · simp only [Act.put, List.setIfInBounds_toArray, List.set_cons_zero, List.set_cons_succ]
          refine wpAnyH_ready (rs := [18]) (by kernel_rfl) (by simp) (br_bslice (i := 18) 84 27 1 _ #[(0, .agg #[.string x.n, .slice x.a nn x.c, .int .i64 (nn : Int)])] _ W1 rfl rfl rfl rfl rfl BS.out S1.out (fun _ => ?_) AllReadyH.nil)
          simp only [Act.put, List.setIfInBounds_toArray, List.set_cons_zero, List.set_cons_succ]
          refine one_append (i := 19) 85 (.tmp 67) (.tmp 84) 27 27 rfl rfl (by kernel_rfl) rfl rfl _ _ _ w3 rfl rfl (HAP.out _) S3.out (fun _ => ?_)
          simp only [Act.put, List.setIfInBounds_toArray, List.set_cons_zero, List.set_cons_succ]
          refine take_at (i := 20) 86 ?_ rfl rfl (by kernel_rfl) (by kernel_rfl) (by kernel_rfl) (fun _ _ _ h => h) (.inl ⟨rfl, ?_⟩) S3.out ?_
          rotate_left 1
          · intro w hSw; go_simp; try with_reducible rfl
          simp only [Act.put, List.setIfInBounds_toArray, List.set_cons_zero, List.set_cons_succ]
          refine wpAnyH_ready (rs := [21]) (by kernel_rfl) (by simp) (br_store (i := 21) 27 (.tmp 86) (.tmp 85) (.pointer (some ⟨w.heap.size + 2, 0, none⟩)) (.slice a' ml c') w4 rfl rfl rfl rfl rfl rfl HST.out S4.out (fun _ => ?_) AllReadyH.nil)
          simp only [Act.put, List.setIfInBounds_toArray, List.set_cons_zero, List.set_cons_succ]
          refine wpAnyH_done (by kernel_rfl) ?_ _
          go_wp2
          go_roundw
          case rel => exact ⟨i + 1, _, by go_num, by omega, FIN⟩
          case measure => simp [intOf]; omega
        · simp only [Act.put, List.setIfInBounds_toArray, List.set_cons_zero, List.set_cons_succ]
          refine wpAnyH_ready (rs := [1]) (by kernel_rfl) (by simp) (br_load (i := 1) 67 (.tmp 66) 27 _ (.slice ua m.length uc) rfl rfl rfl rfl rfl LV1.out S1.out (fun _ => ?_) AllReadyH.nil)
          simp only [Act.put, List.setIfInBounds_toArray, List.set_cons_zero, List.set_cons_succ]
          refine one_append (i := 19) 85 (.tmp 67) (.tmp 84) 27 27 rfl rfl (by kernel_rfl) rfl rfl _ _ _ w3 rfl rfl (HAP.out _) S3.out (fun _ => ?_)
          simp only [Act.put, List.setIfInBounds_toArray, List.set_cons_zero, List.set_cons_succ]
          refine take_at (i := 20) 86 ?_ rfl rfl (by kernel_rfl) (by kernel_rfl) (by kernel_rfl) (fun _ _ _ h => h) (.inl ⟨rfl, ?_⟩) S3.out ?_
          rotate_left 1
          · intro w hSw; go_simp; try with_reducible rfl
          simp only [Act.put, List.setIfInBounds_toArray, List.set_cons_zero, List.set_cons_succ]
          refine wpAnyH_ready (rs := [21]) (by kernel_rfl) (by simp) (br_store (i := 21) 27 (.tmp 86) (.tmp 85) (.pointer (some ⟨w.heap.size + 2, 0, none⟩)) (.slice a' ml c') w4 rfl rfl rfl rfl rfl rfl HST.out S4.out (fun _ => ?_) AllReadyH.nil)
          simp only [Act.put, List.setIfInBounds_toArray, List.set_cons_zero, List.set_cons_succ]
          refine wpAnyH_done (by kernel_rfl) ?_ _
          go_wp2
          go_roundw
          case rel => exact ⟨i + 1, _, by go_num, by omega, FIN⟩
          case measure => simp [intOf]; omega
    · have hge : ¬ ((i : Int) < (l.length : Int)) := by omega
      have hie : full.take i = full := List.take_of_length_le (by rw [FL.out]; omega)
      have FIN := Lib.hid (show m = full from by rw [← HM.out, hie])
      obtain ⟨d0, d1, d2, d3⟩ := K.out.g2.cells
      obtain ⟨e0, e1, e2, e3⟩ := K.out.g1.cells
      obtain ⟨f0, f1, f2, f3⟩ := K.out.g1.free
      clear hie
      go_wp2
      clear c0 d0 d1 d2 d3 e0 e1 e2 e3 f0 f1 f2 f3
      obtain ⟨w5, hW5⟩ : ∃ w5, sets4 wr (w.heap.size + 1) (.slice ua m.length uc) (.int .i64 room) (.int .i64 (-1)) (.bool false) = w5 := ⟨_, rfl⟩
      have hb5 := sets4_row (x' := .slice ua m.length uc) (y' := room) (z' := -1) (v' := false) K.out.g1
      have hw5 := sets4_below (x := .slice ua m.length uc) (y := .int .i64 room) (z := .int .i64 (-1)) (v := .bool false) K.out.bel (show w.heap.size ≤ w.heap.size + 1 by omega)
      have ho5 : (sets4 wr (w.heap.size + 1) (.slice ua m.length uc) (.int .i64 room) (.int .i64 (-1)) (.bool false)).ownsRow (w.heap.size + 3) 66 3 (.slice ua m.length uc) m.length (m.flatMap encR) := by
        unfold sets4
        exact ownsRow_setCell_below (ownsRow_setCell_below (ownsRow_setCell_below (ownsRow_setCell_below K.out.own (by show w.heap.size + 1 < w.heap.size + 3; omega) _) (by show w.heap.size + 1 < w.heap.size + 3; omega) _) (by show w.heap.size + 1 < w.heap.size + 3; omega) _) (by show w.heap.size + 1 < w.heap.size + 3; omega) _
      rw [hW5] at hb5 hw5 ho5
      unfold sets4 at hW5
      rw [hW5]
      clear hW5
      obtain ⟨d0, d1, d2, d3⟩ := RB.cells (show RB w5 (w.heap.size + 1) (.slice ua m.length uc) room (-1) false from hb5)
      refine bodyPost_ret (by simp [results, Try.results27, go_sem, d0, d1, d2, d3]; try rfl) rfl ?_
      exact ⟨_, rfl, by rw [← FIN.out]; exact own_less ho5 (by omega), hw5⟩
end Go.Proofs.Ytoddofcmdbifpaa
