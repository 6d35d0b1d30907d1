/- TreeLoops, walked. Made by genlo14.py. -/
import Derived.Test.YtkmeceoilighiaaLF
set_option linter.unusedVariables false
set_option linter.unusedSimpArgs false
set_option maxRecDepth 100000
namespace Go.Proofs.Ytkmeceoilighiaa
open Go.RowKit Go.Shelf
open Tb (Rw setF dropF getF aboveF Rise TabI TM LiesK nodesF encS)

/-- The law's tree behind so many ops. -/
structure LP (w W : World) (p q mb i : Nat) : Prop where
  bel : Below w.heap.size w W
  tree : ∃ L la lc, TreeI W w.heap.size p q mb [] 0 0 L la lc ∧ LG L i
set_option maxHeartbeats 12800000 in
theorem loops_law (w : World) (v : Value) (l : List O) (h : OLies w v l) (hok : ∀ o ∈ l, OkO o) (hsz : ∀ o ∈ l, o.nm.size ≤ 9223372036854775807) :
    Calls Try.prog 5 #[v] w fun e w' => e = .returned (.bool true) ∧ Below w.heap.size w w' := by
  have H := Lib.hid h
  have HOK := Lib.hid hok
  have HSZ := Lib.hid hsz
  obtain ⟨ao, cap, rfl⟩ := h.shape
  have AW := Lib.hid (fun W => awake_any W)
  have NW := Lib.hid (fun W => new_of W)
  clear h hok hsz
  go_enter Try.func5, Try.ntmps5
  by_cases hl : 30 < l.length
  · have hd1 : (30 : Int) < (l.length : Int) := by omega
    have hd2 : decide ((30 : Int) < (l.length : Int)) = true := decide_eq_true hd1
    have hd3 : decide ((l.length : Int) > 30) = true := decide_eq_true hd1
    clear HOK HSZ NW H
    go_wp2_with fail
    refine (AW.out w).mono ?_
    rintro e w5 ⟨rfl, hb⟩
    go_wp2
    go_returns
    exact ⟨rfl, hb⟩
  have hd1 : ¬ (30 : Int) < (l.length : Int) := by omega
  have hd2 : decide ((30 : Int) < (l.length : Int)) = false := decide_eq_false hd1
  have hd3 : decide ((l.length : Int) > 30) = false := decide_eq_false hd1
  have HL := Lib.hid (Nat.le_of_not_lt hl)
  clear hl
  go_wp2_with fail
  refine (NW.out w).mono ?_
  rintro e w3 ⟨p, q, mb, rfl, ht, hb⟩
  have K0 := Lib.hid (show LP w w3 p q mb 0 from ⟨hb, _, _, _, ht, LG.nil⟩)
  clear ht hb NW hd1 hd2 hd3
  go_wp2_with fail
  go_loopw [4] (fun iv wr => ∃ i : Nat, iv = .int .i64 i ∧ i ≤ l.length ∧ Hid (LP w wr p q mb i)) (fun iv _ => l.length - (intOf iv).toNat)
  case atStart => exact ⟨0, rfl, by omega, K0⟩
  case round =>
    obtain ⟨i, rfl, hi, K⟩ := hrel
    by_cases hlt : i < l.length
    · have hi0 : (0 : Int) ≤ (i : Int) := by omega
      have hi1 : (i : Int) < (l.length : Int) := by omega
      have hd : decide ((i : Int) < (l.length : Int)) = true := decide_eq_true hi1
      have HLT := Lib.hid hlt
      have HLS := Lib.hid (show i + 1 ≤ l.length from hlt)
      have HW9 := Lib.hid (wrap_nat hlt (show l.length ≤ 100000 by have := HL.out; omega))
      have HMS := Lib.hid (meas_nat hlt)
      obtain ⟨g, k, o, rfl, ho, hg, hc⟩ := H.out.atK hlt
      have OC := Lib.hid (fun W (hb : Below w.heap.size w W) => @ldO W g (k + i * 9) o (fun j u hu => (hb.cell (p := ⟨g, k + i * 9 + j, none⟩) hg).trans (hc j u hu)))
      have cs : ∀ W, Below w.heap.size w W → ∀ (j : Nat) u, (oc o)[j]? = some u → W.cell? ⟨g, k + i * 9 + j, none⟩ = some u := fun W hb j u hu => (hb.cell (p := ⟨g, k + i * 9 + j, none⟩) hg).trans (hc j u hu)
      have LN := Lib.hid (fun W (hb : Below w.heap.size w W) => @ld24 W g (k + i * 9 + 3) o.nt o.nr (cs W hb 3 _ rfl) (cs W hb 4 _ rfl))
      have LA := Lib.hid (fun W (hb : Below w.heap.size w W) => @ld24 W g (k + i * 9) o.t o.r (cs W hb 0 _ rfl) (cs W hb 1 _ rfl))
      have IX := Lib.hid (fun W => @ix30 g k l.length cap i hlt W)
      have OKO := Lib.hid (HOK.out o (List.mem_of_getElem? ho))
      have OSZ := Lib.hid (HSZ.out o (List.mem_of_getElem? ho))
      obtain ⟨L, la, lc, ht, hG⟩ := K.out.tree
      have AD := Lib.hid (add_any wr w.heap.size p q mb [] 0 0 L la lc ht hG.rise hG.ok okT_nil (by have := hG.len; have := HL.out; simp; omega) K.out.bel.size o OKO.out OSZ.out)
      have AF := Lib.hid (fun w' hr => @after_add wr w' w.heap.size p q mb i L la lc ht hG K.out.bel.size o OKO.out hr)
      have ER := Lib.hid (addE_code 0 0 L o)
      obtain ⟨er, her⟩ : ∃ z, addE 0 0 L o = z := ⟨_, rfl⟩
      obtain ⟨en, hen⟩ : ∃ z, addN 0 0 L o = z := ⟨_, rfl⟩
      rw [her] at AD AF ER
      rw [hen] at AD
      clear her hen ht hG hc hg ho cs
      go_wp2_with (first | (refine Ve.wpList_load_arr rfl (.tmp 27) 34 rfl (.pointer (some ⟨g, k + i * 9, none⟩)) (oV o) rfl (OC.out wr K.out.bel) ?_))
      refine AD.out.mono ?_
      rintro e w5 ⟨rfl, hr⟩
      obtain ⟨L', la', lc', ht', hg2, hb5, hin⟩ := AF.out w5 hr
      have T5 := Lib.hid ht'
      have G5 := Lib.hid hg2
      have IN := Lib.hid hin
      have K5 := Lib.hid (K.out.bel.trans hb5)
      have PL := Lib.hid (show (playF [] L').length < 100000 from by have := play_len L' []; have := hg2.len; have := HL.out; simp at *; omega)
      have PK := Lib.hid (play_okT L' okT_nil hg2.ok)
      clear hr ht' hg2 hb5 hin AD AF OC K
      have TB := Lib.hid (table_of w5 (pv p) _ 0 0 la' L'.length lc' (playF [] L') T5.out.haveL (clones_tab T5.out.tab PL.out))
      go_wp2_with fail
      refine TB.out.mono ?_
      rintro e w6 ⟨q6, b6, rfl, h6, _, _, hb⟩
      have B6 := Lib.hid hb
      have T6 := Lib.hid h6
      clear hb h6 TB
      have ND := Lib.hid (Tb.nodes_any w6 q6 b6 _ T6.out PL.out)
      go_wp2_with fail
      refine ND.out.mono ?_
      rintro e w7 ⟨v7, rfl, ho7, hb⟩
      obtain ⟨a7, c7, rfl⟩ := Tb.own_shapeK ho7
      have N7 := Lib.hid (Tb.own_liesK (enc := encS) (k := 2) Tb.encS_len ho7)
      have B7 := Lib.hid (B6.out.trans (hb.mono B6.out.size))
      have A7 := Lib.hid (fun W (hb' : Below w7.heap.size w7 W) (s1 s2 : Int) (h1 : Tb.I64 s1) (h2 : Tb.I64 s2) => (show Calls Try.prog 35 #[.pointer (some ⟨q6, 0, none⟩), .agg #[.int .i64 s1, .int .i64 s2], .agg #[.int .i64 s1, .int .i64 s2]] W fun e w' => e = .returned (.bool false) ∧ Below W.heap.size W w' from by
        have := Tb.above_any W q6 b6 _ ((T6.out.step hb).step hb') (by have := PL.out; omega) s1 s2 s1 s2 h1 h2
        rwa [no_loop L' s1 s2] at this))
      have NI := Lib.hid (show ∀ s ∈ nodesF (playF [] L'), Tb.I64 s.1 ∧ Tb.I64 s.2 from fun s hs => by
        obtain ⟨x, hx, rfl⟩ := List.mem_map.1 hs
        exact ⟨(PK.out x hx).1, (PK.out x hx).2.1⟩)
      have NL := Lib.hid (show (nodesF (playF [] L')).length ≤ 100000 from by unfold nodesF; rw [List.length_map]; have := PL.out; omega)
      clear hb ho7 ND T6 B6
      obtain ⟨ns, hns⟩ : ∃ z, nodesF (playF [] L') = z := ⟨_, rfl⟩
      rw [hns] at N7 NI NL
      try rw [hns]
      clear hns
      go_wp2_with fail
      go_loopw [9] (fun jv wr => ∃ j : Nat, jv = .int .i64 j ∧ j ≤ ns.length ∧ Hid (Below w7.heap.size w7 wr)) (fun jv _ => ns.length - (intOf jv).toNat)
      case atStart => exact ⟨0, rfl, by omega, Lib.hid (Below.refl _ _)⟩
      case round =>
        obtain ⟨j, rfl, hj, B8⟩ := hrel
        by_cases hjl : j < ns.length
        · have hj0 : (0 : Int) ≤ (j : Int) := by omega
          have hj1 : (j : Int) < (ns.length : Int) := by omega
          have hdj : decide ((j : Int) < (ns.length : Int)) = true := decide_eq_true hj1
          have HJS := Lib.hid (show j + 1 ≤ ns.length from hjl)
          have HJW := Lib.hid (wrap_nat hjl NL.out)
          have HJM := Lib.hid (meas_nat hjl)
          obtain ⟨g7, k7, s1, s2, e7, hs, hg7, n0, n1⟩ := N7.out.spU hjl
          subst e7
          have LS := Lib.hid (fun W (hb : Below wr.heap.size wr W) => @ld24 W g7 (k7 + j * 2) s1 s2 (((B8.out.trans (hb.mono B8.out.size)).cell (p := ⟨g7, k7 + j * 2, none⟩) hg7).trans n0) (((B8.out.trans (hb.mono B8.out.size)).cell (p := ⟨g7, k7 + j * 2 + 1, none⟩) hg7).trans n1))
          have IS := Lib.hid (fun W => @ix52 g7 k7 ns.length c7 j hjl W)
          have AB := Lib.hid (fun W (hb : Below wr.heap.size wr W) => A7.out W (B8.out.trans (hb.mono B8.out.size)) s1 s2 (NI.out _ (List.mem_of_getElem? hs)).1 (NI.out _ (List.mem_of_getElem? hs)).2)
          clear hs hg7 n0 n1
          go_upto_region 13 with (fail)
          refine wp_region_held_drew (S := fun w' => Below wr.heap.size wr w') (by kernel_rfl) (Below.refl _ _).drew (fun hHeld => ?_)
          have BV := Lib.hid (show Below wr.heap.size wr wr.drew from (Below.refl _ _).drew)
          clear hHeld
          refine take_at (i := 0) 42 ?_ rfl rfl (by kernel_rfl) (by kernel_rfl) (by kernel_rfl) (fun _ _ _ h => h) (.inl ⟨rfl, ?_⟩) BV.out ?_
          rotate_left 1
          · intro w hSw; go_simp; try with_reducible rfl
          simp only [Act.put, List.setIfInBounds_toArray, List.set_cons_zero, List.set_cons_succ]
          refine take_at (i := 1) 43 ?_ rfl rfl (by kernel_rfl) (by kernel_rfl) (by kernel_rfl) (fun _ _ _ h => h) (.inl ⟨rfl, ?_⟩) BV.out ?_
          rotate_left 1
          · intro w hSw; go_simp; try with_reducible rfl
          simp only [Act.put, List.setIfInBounds_toArray, List.set_cons_zero, List.set_cons_succ]
          refine take_at (i := 2) 44 ?_ rfl rfl (by kernel_rfl) (by kernel_rfl) (by kernel_rfl) (fun _ _ _ h => h) (.inl ⟨rfl, ?_⟩) BV.out ?_
          rotate_left 1
          · intro w hSw; go_simp; try with_reducible rfl
          simp only [Act.put, List.setIfInBounds_toArray, List.set_cons_zero, List.set_cons_succ]
          refine take_at (i := 3) 45 (.pointer (some ⟨g7, k7 + j * 2, none⟩)) rfl rfl (by kernel_rfl) (by kernel_rfl) (by kernel_rfl) (fun _ _ _ h => h) (yields_ix (.tmp 43) (.tmp 44) 52 (.slice (some ⟨g7, k7, none⟩) ns.length c7) (.int .i64 (j : Int)) _ IS.out rfl rfl rfl rfl) BV.out ?_
          simp only [Act.put, List.setIfInBounds_toArray, List.set_cons_zero, List.set_cons_succ]
          refine take_at (i := 4) 46 (.agg #[.int .i64 s1, .int .i64 s2]) rfl rfl (by kernel_rfl) (by kernel_rfl) (by kernel_rfl) (fun _ _ _ h => h) (yields_ld (.tmp 45) 24 (.pointer (some ⟨g7, k7 + j * 2, none⟩)) _ LS.out rfl rfl rfl) BV.out ?_
          simp only [Act.put, List.setIfInBounds_toArray, List.set_cons_zero, List.set_cons_succ]
          refine take_at (i := 5) 47 ?_ rfl rfl (by kernel_rfl) (by kernel_rfl) (by kernel_rfl) (fun _ _ _ h => h) (.inl ⟨rfl, ?_⟩) BV.out ?_
          rotate_left 1
          · intro w hSw; go_simp; try with_reducible rfl
          simp only [Act.put, List.setIfInBounds_toArray, List.set_cons_zero, List.set_cons_succ]
          refine take_at (i := 6) 48 ?_ rfl rfl (by kernel_rfl) (by kernel_rfl) (by kernel_rfl) (fun _ _ _ h => h) (.inl ⟨rfl, ?_⟩) BV.out ?_
          rotate_left 1
          · intro w hSw; go_simp; try with_reducible rfl
          simp only [Act.put, List.setIfInBounds_toArray, List.set_cons_zero, List.set_cons_succ]
          refine take_at (i := 7) 49 (.pointer (some ⟨g7, k7 + j * 2, none⟩)) rfl rfl (by kernel_rfl) (by kernel_rfl) (by kernel_rfl) (fun _ _ _ h => h) (yields_ix (.tmp 47) (.tmp 48) 52 (.slice (some ⟨g7, k7, none⟩) ns.length c7) (.int .i64 (j : Int)) _ IS.out rfl rfl rfl rfl) BV.out ?_
          simp only [Act.put, List.setIfInBounds_toArray, List.set_cons_zero, List.set_cons_succ]
          refine take_at (i := 8) 50 (.agg #[.int .i64 s1, .int .i64 s2]) rfl rfl (by kernel_rfl) (by kernel_rfl) (by kernel_rfl) (fun _ _ _ h => h) (yields_ld (.tmp 49) 24 (.pointer (some ⟨g7, k7 + j * 2, none⟩)) _ LS.out rfl rfl rfl) BV.out ?_
          simp only [Act.put, List.setIfInBounds_toArray, List.set_cons_zero, List.set_cons_succ]
          refine wpAnyH_ready (rs := [9]) (by kernel_rfl) (by simp) (br_call (i := 9) 51 35 #[.pointer (some ⟨q6, 0, none⟩), .agg #[.int .i64 s1, .int .i64 s2], .agg #[.int .i64 s1, .int .i64 s2]] rfl rfl rfl (by go_simp) ((AB.out _ BV.out).mono ?_) AllReadyH.nil)
          rintro e v1 ⟨rfl, hb⟩
          have BV := Lib.hid (BV.out.trans (hb.mono BV.out.size))
          clear hb
          refine ⟨_, rfl, BV.out, fun _ => ?_⟩
          simp only [Act.put, List.setIfInBounds_toArray, List.set_cons_zero, List.set_cons_succ]
          refine wpAnyH_done (by kernel_rfl) ?_ _
          have BF := Lib.hid (B8.out.trans (BV.out.mono B8.out.size))
          clear BV
          go_wp2
          go_roundw
          case rel => exact ⟨j + 1, by rw [HJW.out]; rfl, HJS.out, BF⟩
          case measure => rw [HJW.out]; exact HJM.out
        · have ej : j = ns.length := by omega
          subst ej
          have B9 := Lib.hid (B7.out.trans (B8.out.mono B7.out.size))
          have K9 := Lib.hid (K5.out.trans (B9.out.mono K5.out.size))
          have T9 := Lib.hid (T5.out.step B9.out)
          clear B8 A7 NI N7 B7 T5 K5 B9
          obtain ⟨x1, x2, x3, x4, hgv⟩ : ∃ x1 x2 x3 x4, Tb.gv (playF [] L') o.nt o.nr = .agg #[.int .i64 x1, .int .i64 x2, .string x3, .bool x4] := by
            unfold Tb.gv
            cases getF (playF [] L') o.nt o.nr <;> exact ⟨_, _, _, _, rfl⟩
          have TL := T9.out.tells o.nt o.nr OKO.out.nt OKO.out.nr
          rw [hgv] at TL
          obtain ⟨ok, hokv⟩ : ∃ z, (getF (playF [] L') o.nt o.nr).isSome = z := ⟨_, rfl⟩
          rw [hokv] at TL
          have GT := Lib.hid (get_of wr (pv p) _ 0 0 la' _ lc' o.nt o.nr x1 x2 x3 x4 ok T9.out.haveL TL)
          have HOV := Lib.hid hokv
          have LNW := Lib.hid (LN.out wr K9.out)
          clear TL hgv hokv
          go_wp2_with (first | (refine Ve.wpList_load_arr rfl (.tmp 57) 24 rfl (.pointer (some ⟨g, k + i * 9 + 3, none⟩)) (.agg #[.int .i64 o.nt, .int .i64 o.nr]) rfl LNW.out ?_))
          refine GT.out.mono ?_
          rintro e w9 ⟨rfl, hb⟩
          have hb2 := hb.trans ((pl_vstep w9 (.cells #[.int .i64 x1, .int .i64 x2, .string x3, .bool x4] 69)).mono hb.size)
          have KA := Lib.hid (K9.out.trans (hb2.mono K9.out.size))
          have TA := Lib.hid (T9.out.step hb2)
          clear hb hb2 K9 T9 GT LNW
          go_upto_region 16 with (fail)
          generalize w9.alloc (.cells #[.int .i64 x1, .int .i64 x2, .string x3, .bool x4] 69) = wa at KA TA ⊢
          have LNA := Lib.hid (fun W (hb : Below wa.heap.size wa W) => LN.out W (KA.out.trans (hb.mono KA.out.size)))
          have LAA := Lib.hid (fun W (hb : Below wa.heap.size wa W) => LA.out W (KA.out.trans (hb.mono KA.out.size)))
          have E37 := Lib.hid (fun W => @eq37 er ER.out W)
          by_cases he : er = 0
          · subst he
            have E37 := Lib.hid (show ∀ W, (binOp .eql 37 (.int .i64 0) (.int .i64 0)).run Try.prog W = .ok (.bool true) W from fun W => by rw [E37.out W]; rfl)
            by_cases hna : o.nt = o.t ∧ o.nr = o.r
            · have E24 := Lib.hid (fun W => (eq24 o.nt o.nr o.t o.r W).trans (by rw [decide_eq_true hna]))
              obtain ⟨hs1, hs2⟩ := own_there G5.out.rise G5.out.right (IN.out rfl) hna
              have eok : ok = true := by rw [← HOV.out]; exact hs1
              subst eok
              have DD := Lib.hid (fun W (hb : Below wa.heap.size wa W) => (TA.out.step hb).did G5.out.rise (by have := G5.out.len; have := HL.out; omega) o.t o.r)
              rw [hs2] at DD
              clear hna hs1 hs2
              refine wp_region_held_drew (S := fun w' => Below wa.heap.size wa w') (by kernel_rfl) (Below.refl _ _).drew (fun hHeld => ?_)
              have BV := Lib.hid (show Below wa.heap.size wa wa.drew from (Below.refl _ _).drew)
              clear hHeld
              refine take_at (i := 0) 62 ?_ rfl rfl (by kernel_rfl) (by kernel_rfl) (by kernel_rfl) (fun _ _ _ h => h) (.inl ⟨rfl, ?_⟩) BV.out ?_
              rotate_left 1
              · intro w hSw; go_simp; try with_reducible rfl
              simp only [Act.put, List.setIfInBounds_toArray, List.set_cons_zero, List.set_cons_succ]
              refine take_at (i := 1) 63 (.bool true) rfl rfl (by kernel_rfl) (by kernel_rfl) (by kernel_rfl) (fun _ _ _ h => h) (yields_bin .eql (.tmp 62) (.const (.int .i64 0)) 37 37 (.int .i64 0) (.int .i64 0) _ E37.out (g37 _ _ _ _) rfl rfl rfl rfl) BV.out ?_
              simp only [Act.put, List.setIfInBounds_toArray, List.set_cons_zero, List.set_cons_succ]
              refine take_at (i := 2) 64 ?_ rfl rfl (by kernel_rfl) (by kernel_rfl) (by kernel_rfl) (fun _ _ _ h => h) (.inl ⟨rfl, ?_⟩) BV.out ?_
              rotate_left 1
              · intro w hSw; go_simp; try with_reducible rfl
              simp only [Act.put, List.setIfInBounds_toArray, List.set_cons_zero, List.set_cons_succ]
              refine take_at (i := 3) 65 ?_ rfl rfl (by kernel_rfl) (by kernel_rfl) (by kernel_rfl) (fun _ _ _ h => h) (.inl ⟨rfl, ?_⟩) BV.out ?_
              rotate_left 1
              · intro w hSw; go_simp; try with_reducible rfl
              simp only [Act.put, List.setIfInBounds_toArray, List.set_cons_zero, List.set_cons_succ]
              refine take_at (i := 4) 66 ?_ rfl rfl (by kernel_rfl) (by kernel_rfl) (by kernel_rfl) (fun _ _ _ h => h) (.inl ⟨rfl, ?_⟩) BV.out ?_
              rotate_left 1
              · intro w hSw; go_simp; try with_reducible rfl
              simp only [Act.put, List.setIfInBounds_toArray, List.set_cons_zero, List.set_cons_succ]
              refine take_at (i := 5) 67 (.pointer (some ⟨g, k + i * 9, none⟩)) rfl rfl (by kernel_rfl) (by kernel_rfl) (by kernel_rfl) (fun _ _ _ h => h) (yields_ix (.tmp 65) (.tmp 66) 30 (.slice (some ⟨g, k, none⟩) l.length cap) (.int .i64 (i : Int)) _ IX.out rfl rfl rfl rfl) BV.out ?_
              simp only [Act.put, List.setIfInBounds_toArray, List.set_cons_zero, List.set_cons_succ]
              refine take_at (i := 6) 68 ?_ rfl rfl (by kernel_rfl) (by kernel_rfl) (by kernel_rfl) (fun _ _ _ h => h) (.inl ⟨rfl, ?_⟩) BV.out ?_
              rotate_left 1
              · intro w hSw; go_simp; try with_reducible rfl
              simp only [Act.put, List.setIfInBounds_toArray, List.set_cons_zero, List.set_cons_succ]
              refine take_at (i := 7) 69 (.agg #[.int .i64 o.nt, .int .i64 o.nr]) rfl rfl (by kernel_rfl) (by kernel_rfl) (by kernel_rfl) (fun _ _ _ h => h) (yields_ld (.tmp 68) 24 (.pointer (some ⟨g, k + i * 9 + 3, none⟩)) _ LNA.out rfl rfl rfl) BV.out ?_
              simp only [Act.put, List.setIfInBounds_toArray, List.set_cons_zero, List.set_cons_succ]
              refine take_at (i := 8) 70 ?_ rfl rfl (by kernel_rfl) (by kernel_rfl) (by kernel_rfl) (fun _ _ _ h => h) (.inl ⟨rfl, ?_⟩) BV.out ?_
              rotate_left 1
              · intro w hSw; go_simp; try with_reducible rfl
              simp only [Act.put, List.setIfInBounds_toArray, List.set_cons_zero, List.set_cons_succ]
              refine take_at (i := 9) 71 ?_ rfl rfl (by kernel_rfl) (by kernel_rfl) (by kernel_rfl) (fun _ _ _ h => h) (.inl ⟨rfl, ?_⟩) BV.out ?_
              rotate_left 1
              · intro w hSw; go_simp; try with_reducible rfl
              simp only [Act.put, List.setIfInBounds_toArray, List.set_cons_zero, List.set_cons_succ]
              refine take_at (i := 10) 72 (.pointer (some ⟨g, k + i * 9, none⟩)) rfl rfl (by kernel_rfl) (by kernel_rfl) (by kernel_rfl) (fun _ _ _ h => h) (yields_ix (.tmp 70) (.tmp 71) 30 (.slice (some ⟨g, k, none⟩) l.length cap) (.int .i64 (i : Int)) _ IX.out rfl rfl rfl rfl) BV.out ?_
              simp only [Act.put, List.setIfInBounds_toArray, List.set_cons_zero, List.set_cons_succ]
              refine take_at (i := 11) 73 ?_ rfl rfl (by kernel_rfl) (by kernel_rfl) (by kernel_rfl) (fun _ _ _ h => h) (.inl ⟨rfl, ?_⟩) BV.out ?_
              rotate_left 1
              · intro w hSw; go_simp; try with_reducible rfl
              simp only [Act.put, List.setIfInBounds_toArray, List.set_cons_zero, List.set_cons_succ]
              refine take_at (i := 12) 74 (.agg #[.int .i64 o.t, .int .i64 o.r]) rfl rfl (by kernel_rfl) (by kernel_rfl) (by kernel_rfl) (fun _ _ _ h => h) (yields_ld (.tmp 73) 24 (.pointer (some ⟨g, k + i * 9, none⟩)) _ LAA.out rfl rfl rfl) BV.out ?_
              simp only [Act.put, List.setIfInBounds_toArray, List.set_cons_zero, List.set_cons_succ]
              refine take_at (i := 13) 75 (.bool true) rfl rfl (by kernel_rfl) (by kernel_rfl) (by kernel_rfl) (fun _ _ _ h => h) (yields_bin .eql (.tmp 69) (.tmp 74) 24 24 (.agg #[.int .i64 o.nt, .int .i64 o.nr]) (.agg #[.int .i64 o.t, .int .i64 o.r]) _ E24.out (g24 _ _ _ _) rfl rfl rfl rfl) BV.out ?_
              simp only [Act.put, List.setIfInBounds_toArray, List.set_cons_zero, List.set_cons_succ]
              refine take_at (i := 14) 76 ?_ rfl rfl (by kernel_rfl) (by kernel_rfl) (by kernel_rfl) (fun _ _ _ h => h) (.inl ⟨rfl, ?_⟩) BV.out ?_
              rotate_left 1
              · intro w hSw; go_simp; try with_reducible rfl
              simp only [Act.put, List.setIfInBounds_toArray, List.set_cons_zero, List.set_cons_succ]
              refine take_at (i := 15) 77 ?_ rfl rfl (by kernel_rfl) (by kernel_rfl) (by kernel_rfl) (fun _ _ _ h => h) (.inl ⟨rfl, ?_⟩) BV.out ?_
              rotate_left 1
              · intro w hSw; go_simp; try with_reducible rfl
              simp only [Act.put, List.setIfInBounds_toArray, List.set_cons_zero, List.set_cons_succ]
              refine take_at (i := 16) 78 ?_ rfl rfl (by kernel_rfl) (by kernel_rfl) (by kernel_rfl) (fun _ _ _ h => h) (.inl ⟨rfl, ?_⟩) BV.out ?_
              rotate_left 1
              · intro w hSw; go_simp; try with_reducible rfl
              simp only [Act.put, List.setIfInBounds_toArray, List.set_cons_zero, List.set_cons_succ]
              refine take_at (i := 17) 79 ?_ rfl rfl (by kernel_rfl) (by kernel_rfl) (by kernel_rfl) (fun _ _ _ h => h) (.inl ⟨rfl, ?_⟩) BV.out ?_
              rotate_left 1
              · intro w hSw; go_simp; try with_reducible rfl
              simp only [Act.put, List.setIfInBounds_toArray, List.set_cons_zero, List.set_cons_succ]
              refine take_at (i := 18) 80 ?_ rfl rfl (by kernel_rfl) (by kernel_rfl) (by kernel_rfl) (fun _ _ _ h => h) (.inl ⟨rfl, ?_⟩) BV.out ?_
              rotate_left 1
              · intro w hSw; go_simp; try with_reducible rfl
              simp only [Act.put, List.setIfInBounds_toArray, List.set_cons_zero, List.set_cons_succ]
              refine take_at (i := 19) 81 ?_ rfl rfl (by kernel_rfl) (by kernel_rfl) (by kernel_rfl) (fun _ _ _ h => h) (.inl ⟨rfl, ?_⟩) BV.out ?_
              rotate_left 1
              · intro w hSw; go_simp; try with_reducible rfl
              simp only [Act.put, List.setIfInBounds_toArray, List.set_cons_zero, List.set_cons_succ]
              refine take_at (i := 20) 82 ?_ rfl rfl (by kernel_rfl) (by kernel_rfl) (by kernel_rfl) (fun _ _ _ h => h) (.inl ⟨rfl, ?_⟩) BV.out ?_
              rotate_left 1
              · intro w hSw; go_simp; try with_reducible rfl
              simp only [Act.put, List.setIfInBounds_toArray, List.set_cons_zero, List.set_cons_succ]
              refine take_at (i := 21) 83 ?_ rfl rfl (by kernel_rfl) (by kernel_rfl) (by kernel_rfl) (fun _ _ _ h => h) (.inl ⟨rfl, ?_⟩) BV.out ?_
              rotate_left 1
              · intro w hSw; go_simp; try with_reducible rfl
              simp only [Act.put, List.setIfInBounds_toArray, List.set_cons_zero, List.set_cons_succ]
              refine take_at (i := 22) 84 (.pointer (some ⟨g, k + i * 9, none⟩)) rfl rfl (by kernel_rfl) (by kernel_rfl) (by kernel_rfl) (fun _ _ _ h => h) (yields_ix (.tmp 82) (.tmp 83) 30 (.slice (some ⟨g, k, none⟩) l.length cap) (.int .i64 (i : Int)) _ IX.out rfl rfl rfl rfl) BV.out ?_
              simp only [Act.put, List.setIfInBounds_toArray, List.set_cons_zero, List.set_cons_succ]
              refine take_at (i := 23) 85 ?_ rfl rfl (by kernel_rfl) (by kernel_rfl) (by kernel_rfl) (fun _ _ _ h => h) (.inl ⟨rfl, ?_⟩) BV.out ?_
              rotate_left 1
              · intro w hSw; go_simp; try with_reducible rfl
              simp only [Act.put, List.setIfInBounds_toArray, List.set_cons_zero, List.set_cons_succ]
              refine take_at (i := 24) 86 (.agg #[.int .i64 o.t, .int .i64 o.r]) rfl rfl (by kernel_rfl) (by kernel_rfl) (by kernel_rfl) (fun _ _ _ h => h) (yields_ld (.tmp 85) 24 (.pointer (some ⟨g, k + i * 9, none⟩)) _ LAA.out rfl rfl rfl) BV.out ?_
              simp only [Act.put, List.setIfInBounds_toArray, List.set_cons_zero, List.set_cons_succ]
              refine wpAnyH_ready (rs := [25]) (by kernel_rfl) (by simp) (br_call (i := 25) 87 19 #[pv p, .agg #[.int .i64 o.t, .int .i64 o.r]] rfl rfl rfl (by go_simp) ((DD.out _ BV.out).mono ?_) AllReadyH.nil)
              rintro e v1 ⟨rfl, hb⟩
              have BV := Lib.hid (BV.out.trans (hb.mono BV.out.size))
              clear hb
              refine ⟨_, rfl, BV.out, fun _ => ?_⟩
              simp only [Act.put, List.setIfInBounds_toArray, List.set_cons_zero, List.set_cons_succ]
              refine take_at (i := 26) 88 ?_ rfl rfl (by kernel_rfl) (by kernel_rfl) (by kernel_rfl) (fun _ _ _ h => h) (.inl ⟨rfl, ?_⟩) BV.out ?_
              rotate_left 1
              · intro w hSw; go_simp; try with_reducible rfl
              simp only [Act.put, List.setIfInBounds_toArray, List.set_cons_zero, List.set_cons_succ]
              refine take_at (i := 27) 89 ?_ rfl rfl (by kernel_rfl) (by kernel_rfl) (by kernel_rfl) (fun _ _ _ h => h) (.inl ⟨rfl, ?_⟩) BV.out ?_
              rotate_left 1
              · intro w hSw; go_simp; try with_reducible rfl
              simp only [Act.put, List.setIfInBounds_toArray, List.set_cons_zero, List.set_cons_succ]
              refine take_at (i := 28) 90 ?_ rfl rfl (by kernel_rfl) (by kernel_rfl) (by kernel_rfl) (fun _ _ _ h => h) (.inl ⟨rfl, ?_⟩) BV.out ?_
              rotate_left 1
              · intro w hSw; go_simp; try with_reducible rfl
              simp only [Act.put, List.setIfInBounds_toArray, List.set_cons_zero, List.set_cons_succ]
              refine wpAnyH_done (by kernel_rfl) ?_ _
              have KF := Lib.hid (show LP w v1 p q mb (i + 1) from ⟨KA.out.trans (BV.out.mono KA.out.size), _, _, _, TA.out.step BV.out, G5.out⟩)
              clear BV
              go_wp2
              go_roundw
              case rel => exact ⟨i + 1, by rw [HW9.out]; rfl, HLS.out, KF⟩
              case measure => rw [HW9.out]; exact HMS.out
            · have E24 := Lib.hid (fun W => (eq24 o.nt o.nr o.t o.r W).trans (by rw [decide_eq_false hna]))
              clear hna
              refine wp_region_held_drew (S := fun w' => Below wa.heap.size wa w') (by kernel_rfl) (Below.refl _ _).drew (fun hHeld => ?_)
              have BV := Lib.hid (show Below wa.heap.size wa wa.drew from (Below.refl _ _).drew)
              clear hHeld
              refine take_at (i := 0) 62 ?_ rfl rfl (by kernel_rfl) (by kernel_rfl) (by kernel_rfl) (fun _ _ _ h => h) (.inl ⟨rfl, ?_⟩) BV.out ?_
              rotate_left 1
              · intro w hSw; go_simp; try with_reducible rfl
              simp only [Act.put, List.setIfInBounds_toArray, List.set_cons_zero, List.set_cons_succ]
              refine take_at (i := 1) 63 (.bool true) rfl rfl (by kernel_rfl) (by kernel_rfl) (by kernel_rfl) (fun _ _ _ h => h) (yields_bin .eql (.tmp 62) (.const (.int .i64 0)) 37 37 (.int .i64 0) (.int .i64 0) _ E37.out (g37 _ _ _ _) rfl rfl rfl rfl) BV.out ?_
              simp only [Act.put, List.setIfInBounds_toArray, List.set_cons_zero, List.set_cons_succ]
              refine take_at (i := 2) 64 ?_ rfl rfl (by kernel_rfl) (by kernel_rfl) (by kernel_rfl) (fun _ _ _ h => h) (.inl ⟨rfl, ?_⟩) BV.out ?_
              rotate_left 1
              · intro w hSw; go_simp; try with_reducible rfl
              simp only [Act.put, List.setIfInBounds_toArray, List.set_cons_zero, List.set_cons_succ]
              refine take_at (i := 3) 65 ?_ rfl rfl (by kernel_rfl) (by kernel_rfl) (by kernel_rfl) (fun _ _ _ h => h) (.inl ⟨rfl, ?_⟩) BV.out ?_
              rotate_left 1
              · intro w hSw; go_simp; try with_reducible rfl
              simp only [Act.put, List.setIfInBounds_toArray, List.set_cons_zero, List.set_cons_succ]
              refine take_at (i := 4) 66 ?_ rfl rfl (by kernel_rfl) (by kernel_rfl) (by kernel_rfl) (fun _ _ _ h => h) (.inl ⟨rfl, ?_⟩) BV.out ?_
              rotate_left 1
              · intro w hSw; go_simp; try with_reducible rfl
              simp only [Act.put, List.setIfInBounds_toArray, List.set_cons_zero, List.set_cons_succ]
              refine take_at (i := 5) 67 (.pointer (some ⟨g, k + i * 9, none⟩)) rfl rfl (by kernel_rfl) (by kernel_rfl) (by kernel_rfl) (fun _ _ _ h => h) (yields_ix (.tmp 65) (.tmp 66) 30 (.slice (some ⟨g, k, none⟩) l.length cap) (.int .i64 (i : Int)) _ IX.out rfl rfl rfl rfl) BV.out ?_
              simp only [Act.put, List.setIfInBounds_toArray, List.set_cons_zero, List.set_cons_succ]
              refine take_at (i := 6) 68 ?_ rfl rfl (by kernel_rfl) (by kernel_rfl) (by kernel_rfl) (fun _ _ _ h => h) (.inl ⟨rfl, ?_⟩) BV.out ?_
              rotate_left 1
              · intro w hSw; go_simp; try with_reducible rfl
              simp only [Act.put, List.setIfInBounds_toArray, List.set_cons_zero, List.set_cons_succ]
              refine take_at (i := 7) 69 (.agg #[.int .i64 o.nt, .int .i64 o.nr]) rfl rfl (by kernel_rfl) (by kernel_rfl) (by kernel_rfl) (fun _ _ _ h => h) (yields_ld (.tmp 68) 24 (.pointer (some ⟨g, k + i * 9 + 3, none⟩)) _ LNA.out rfl rfl rfl) BV.out ?_
              simp only [Act.put, List.setIfInBounds_toArray, List.set_cons_zero, List.set_cons_succ]
              refine take_at (i := 8) 70 ?_ rfl rfl (by kernel_rfl) (by kernel_rfl) (by kernel_rfl) (fun _ _ _ h => h) (.inl ⟨rfl, ?_⟩) BV.out ?_
              rotate_left 1
              · intro w hSw; go_simp; try with_reducible rfl
              simp only [Act.put, List.setIfInBounds_toArray, List.set_cons_zero, List.set_cons_succ]
              refine take_at (i := 9) 71 ?_ rfl rfl (by kernel_rfl) (by kernel_rfl) (by kernel_rfl) (fun _ _ _ h => h) (.inl ⟨rfl, ?_⟩) BV.out ?_
              rotate_left 1
              · intro w hSw; go_simp; try with_reducible rfl
              simp only [Act.put, List.setIfInBounds_toArray, List.set_cons_zero, List.set_cons_succ]
              refine take_at (i := 10) 72 (.pointer (some ⟨g, k + i * 9, none⟩)) rfl rfl (by kernel_rfl) (by kernel_rfl) (by kernel_rfl) (fun _ _ _ h => h) (yields_ix (.tmp 70) (.tmp 71) 30 (.slice (some ⟨g, k, none⟩) l.length cap) (.int .i64 (i : Int)) _ IX.out rfl rfl rfl rfl) BV.out ?_
              simp only [Act.put, List.setIfInBounds_toArray, List.set_cons_zero, List.set_cons_succ]
              refine take_at (i := 11) 73 ?_ rfl rfl (by kernel_rfl) (by kernel_rfl) (by kernel_rfl) (fun _ _ _ h => h) (.inl ⟨rfl, ?_⟩) BV.out ?_
              rotate_left 1
              · intro w hSw; go_simp; try with_reducible rfl
              simp only [Act.put, List.setIfInBounds_toArray, List.set_cons_zero, List.set_cons_succ]
              refine take_at (i := 12) 74 (.agg #[.int .i64 o.t, .int .i64 o.r]) rfl rfl (by kernel_rfl) (by kernel_rfl) (by kernel_rfl) (fun _ _ _ h => h) (yields_ld (.tmp 73) 24 (.pointer (some ⟨g, k + i * 9, none⟩)) _ LAA.out rfl rfl rfl) BV.out ?_
              simp only [Act.put, List.setIfInBounds_toArray, List.set_cons_zero, List.set_cons_succ]
              refine take_at (i := 13) 75 (.bool false) rfl rfl (by kernel_rfl) (by kernel_rfl) (by kernel_rfl) (fun _ _ _ h => h) (yields_bin .eql (.tmp 69) (.tmp 74) 24 24 (.agg #[.int .i64 o.nt, .int .i64 o.nr]) (.agg #[.int .i64 o.t, .int .i64 o.r]) _ E24.out (g24 _ _ _ _) rfl rfl rfl rfl) BV.out ?_
              simp only [Act.put, List.setIfInBounds_toArray, List.set_cons_zero, List.set_cons_succ]
              refine take_at (i := 14) 76 ?_ rfl rfl (by kernel_rfl) (by kernel_rfl) (by kernel_rfl) (fun _ _ _ h => h) (.inl ⟨rfl, ?_⟩) BV.out ?_
              rotate_left 1
              · intro w hSw; go_simp; try with_reducible rfl
              simp only [Act.put, List.setIfInBounds_toArray, List.set_cons_zero, List.set_cons_succ]
              refine take_at (i := 15) 77 ?_ rfl rfl (by kernel_rfl) (by kernel_rfl) (by kernel_rfl) (fun _ _ _ h => h) (.inl ⟨rfl, ?_⟩) BV.out ?_
              rotate_left 1
              · intro w hSw; go_simp; try with_reducible rfl
              simp only [Act.put, List.setIfInBounds_toArray, List.set_cons_zero, List.set_cons_succ]
              refine take_at (i := 16) 78 undef rfl rfl (by kernel_rfl) (by kernel_rfl) (by kernel_rfl) (fun _ _ _ h => h) (.inr ⟨rfl, rfl⟩) BV.out ?_
              simp only [Act.put, List.setIfInBounds_toArray, List.set_cons_zero, List.set_cons_succ]
              refine take_at (i := 17) 79 undef rfl rfl (by kernel_rfl) (by kernel_rfl) (by kernel_rfl) (fun _ _ _ h => h) (.inr ⟨rfl, rfl⟩) BV.out ?_
              simp only [Act.put, List.setIfInBounds_toArray, List.set_cons_zero, List.set_cons_succ]
              refine take_at (i := 18) 80 undef rfl rfl (by kernel_rfl) (by kernel_rfl) (by kernel_rfl) (fun _ _ _ h => h) (.inr ⟨rfl, rfl⟩) BV.out ?_
              simp only [Act.put, List.setIfInBounds_toArray, List.set_cons_zero, List.set_cons_succ]
              refine take_at (i := 19) 81 undef rfl rfl (by kernel_rfl) (by kernel_rfl) (by kernel_rfl) (fun _ _ _ h => h) (.inr ⟨rfl, rfl⟩) BV.out ?_
              simp only [Act.put, List.setIfInBounds_toArray, List.set_cons_zero, List.set_cons_succ]
              refine take_at (i := 20) 82 undef rfl rfl (by kernel_rfl) (by kernel_rfl) (by kernel_rfl) (fun _ _ _ h => h) (.inr ⟨rfl, rfl⟩) BV.out ?_
              simp only [Act.put, List.setIfInBounds_toArray, List.set_cons_zero, List.set_cons_succ]
              refine take_at (i := 21) 83 undef rfl rfl (by kernel_rfl) (by kernel_rfl) (by kernel_rfl) (fun _ _ _ h => h) (.inr ⟨rfl, rfl⟩) BV.out ?_
              simp only [Act.put, List.setIfInBounds_toArray, List.set_cons_zero, List.set_cons_succ]
              refine take_at (i := 22) 84 undef rfl rfl (by kernel_rfl) (by kernel_rfl) (by kernel_rfl) (fun _ _ _ h => h) (.inr ⟨rfl, rfl⟩) BV.out ?_
              simp only [Act.put, List.setIfInBounds_toArray, List.set_cons_zero, List.set_cons_succ]
              refine take_at (i := 23) 85 undef rfl rfl (by kernel_rfl) (by kernel_rfl) (by kernel_rfl) (fun _ _ _ h => h) (.inr ⟨rfl, rfl⟩) BV.out ?_
              simp only [Act.put, List.setIfInBounds_toArray, List.set_cons_zero, List.set_cons_succ]
              refine take_at (i := 24) 86 undef rfl rfl (by kernel_rfl) (by kernel_rfl) (by kernel_rfl) (fun _ _ _ h => h) (.inr ⟨rfl, rfl⟩) BV.out ?_
              simp only [Act.put, List.setIfInBounds_toArray, List.set_cons_zero, List.set_cons_succ]
              refine take_at (i := 25) 87 undef rfl rfl (by kernel_rfl) (by kernel_rfl) (by kernel_rfl) (fun _ _ _ h => h) (.inr ⟨rfl, rfl⟩) BV.out ?_
              simp only [Act.put, List.setIfInBounds_toArray, List.set_cons_zero, List.set_cons_succ]
              refine take_at (i := 26) 88 undef rfl rfl (by kernel_rfl) (by kernel_rfl) (by kernel_rfl) (fun _ _ _ h => h) (.inr ⟨rfl, rfl⟩) BV.out ?_
              simp only [Act.put, List.setIfInBounds_toArray, List.set_cons_zero, List.set_cons_succ]
              refine take_at (i := 27) 89 undef rfl rfl (by kernel_rfl) (by kernel_rfl) (by kernel_rfl) (fun _ _ _ h => h) (.inr ⟨rfl, rfl⟩) BV.out ?_
              simp only [Act.put, List.setIfInBounds_toArray, List.set_cons_zero, List.set_cons_succ]
              refine take_at (i := 28) 90 ?_ rfl rfl (by kernel_rfl) (by kernel_rfl) (by kernel_rfl) (fun _ _ _ h => h) (.inl ⟨rfl, ?_⟩) BV.out ?_
              rotate_left 1
              · intro w hSw; go_simp; try with_reducible rfl
              simp only [Act.put, List.setIfInBounds_toArray, List.set_cons_zero, List.set_cons_succ]
              refine wpAnyH_done (by kernel_rfl) ?_ _
              have KF := Lib.hid (show LP w wa.drew p q mb (i + 1) from ⟨KA.out.trans (BV.out.mono KA.out.size), _, _, _, TA.out.step BV.out, G5.out⟩)
              clear BV
              go_wp2
              go_roundw
              case rel => exact ⟨i + 1, by rw [HW9.out]; rfl, HLS.out, KF⟩
              case measure => rw [HW9.out]; exact HMS.out
          · have E37 := Lib.hid (show ∀ W, (binOp .eql 37 (.int .i64 er) (.int .i64 0)).run Try.prog W = .ok (.bool false) W from fun W => by rw [E37.out W, decide_eq_false he])
            clear he
            refine wp_region_held_drew (S := fun w' => Below wa.heap.size wa w') (by kernel_rfl) (Below.refl _ _).drew (fun hHeld => ?_)
            have BV := Lib.hid (show Below wa.heap.size wa wa.drew from (Below.refl _ _).drew)
            clear hHeld
            refine take_at (i := 0) 62 ?_ rfl rfl (by kernel_rfl) (by kernel_rfl) (by kernel_rfl) (fun _ _ _ h => h) (.inl ⟨rfl, ?_⟩) BV.out ?_
            rotate_left 1
            · intro w hSw; go_simp; try with_reducible rfl
            simp only [Act.put, List.setIfInBounds_toArray, List.set_cons_zero, List.set_cons_succ]
            refine take_at (i := 1) 63 (.bool false) rfl rfl (by kernel_rfl) (by kernel_rfl) (by kernel_rfl) (fun _ _ _ h => h) (yields_bin .eql (.tmp 62) (.const (.int .i64 0)) 37 37 (.int .i64 er) (.int .i64 0) _ E37.out (g37 _ _ _ _) rfl rfl rfl rfl) BV.out ?_
            simp only [Act.put, List.setIfInBounds_toArray, List.set_cons_zero, List.set_cons_succ]
            refine take_at (i := 2) 64 ?_ rfl rfl (by kernel_rfl) (by kernel_rfl) (by kernel_rfl) (fun _ _ _ h => h) (.inl ⟨rfl, ?_⟩) BV.out ?_
            rotate_left 1
            · intro w hSw; go_simp; try with_reducible rfl
            simp only [Act.put, List.setIfInBounds_toArray, List.set_cons_zero, List.set_cons_succ]
            refine take_at (i := 3) 65 undef rfl rfl (by kernel_rfl) (by kernel_rfl) (by kernel_rfl) (fun _ _ _ h => h) (.inr ⟨rfl, rfl⟩) BV.out ?_
            simp only [Act.put, List.setIfInBounds_toArray, List.set_cons_zero, List.set_cons_succ]
            refine take_at (i := 4) 66 undef rfl rfl (by kernel_rfl) (by kernel_rfl) (by kernel_rfl) (fun _ _ _ h => h) (.inr ⟨rfl, rfl⟩) BV.out ?_
            simp only [Act.put, List.setIfInBounds_toArray, List.set_cons_zero, List.set_cons_succ]
            refine take_at (i := 5) 67 undef rfl rfl (by kernel_rfl) (by kernel_rfl) (by kernel_rfl) (fun _ _ _ h => h) (.inr ⟨rfl, rfl⟩) BV.out ?_
            simp only [Act.put, List.setIfInBounds_toArray, List.set_cons_zero, List.set_cons_succ]
            refine take_at (i := 6) 68 undef rfl rfl (by kernel_rfl) (by kernel_rfl) (by kernel_rfl) (fun _ _ _ h => h) (.inr ⟨rfl, rfl⟩) BV.out ?_
            simp only [Act.put, List.setIfInBounds_toArray, List.set_cons_zero, List.set_cons_succ]
            refine take_at (i := 7) 69 undef rfl rfl (by kernel_rfl) (by kernel_rfl) (by kernel_rfl) (fun _ _ _ h => h) (.inr ⟨rfl, rfl⟩) BV.out ?_
            simp only [Act.put, List.setIfInBounds_toArray, List.set_cons_zero, List.set_cons_succ]
            refine take_at (i := 8) 70 undef rfl rfl (by kernel_rfl) (by kernel_rfl) (by kernel_rfl) (fun _ _ _ h => h) (.inr ⟨rfl, rfl⟩) BV.out ?_
            simp only [Act.put, List.setIfInBounds_toArray, List.set_cons_zero, List.set_cons_succ]
            refine take_at (i := 9) 71 undef rfl rfl (by kernel_rfl) (by kernel_rfl) (by kernel_rfl) (fun _ _ _ h => h) (.inr ⟨rfl, rfl⟩) BV.out ?_
            simp only [Act.put, List.setIfInBounds_toArray, List.set_cons_zero, List.set_cons_succ]
            refine take_at (i := 10) 72 undef rfl rfl (by kernel_rfl) (by kernel_rfl) (by kernel_rfl) (fun _ _ _ h => h) (.inr ⟨rfl, rfl⟩) BV.out ?_
            simp only [Act.put, List.setIfInBounds_toArray, List.set_cons_zero, List.set_cons_succ]
            refine take_at (i := 11) 73 undef rfl rfl (by kernel_rfl) (by kernel_rfl) (by kernel_rfl) (fun _ _ _ h => h) (.inr ⟨rfl, rfl⟩) BV.out ?_
            simp only [Act.put, List.setIfInBounds_toArray, List.set_cons_zero, List.set_cons_succ]
            refine take_at (i := 12) 74 undef rfl rfl (by kernel_rfl) (by kernel_rfl) (by kernel_rfl) (fun _ _ _ h => h) (.inr ⟨rfl, rfl⟩) BV.out ?_
            simp only [Act.put, List.setIfInBounds_toArray, List.set_cons_zero, List.set_cons_succ]
            refine take_at (i := 13) 75 undef rfl rfl (by kernel_rfl) (by kernel_rfl) (by kernel_rfl) (fun _ _ _ h => h) (.inr ⟨rfl, rfl⟩) BV.out ?_
            simp only [Act.put, List.setIfInBounds_toArray, List.set_cons_zero, List.set_cons_succ]
            refine take_at (i := 14) 76 ?_ rfl rfl (by kernel_rfl) (by kernel_rfl) (by kernel_rfl) (fun _ _ _ h => h) (.inl ⟨rfl, ?_⟩) BV.out ?_
            rotate_left 1
            · intro w hSw; go_simp; try with_reducible rfl
            simp only [Act.put, List.setIfInBounds_toArray, List.set_cons_zero, List.set_cons_succ]
            refine take_at (i := 15) 77 ?_ rfl rfl (by kernel_rfl) (by kernel_rfl) (by kernel_rfl) (fun _ _ _ h => h) (.inl ⟨rfl, ?_⟩) BV.out ?_
            rotate_left 1
            · intro w hSw; go_simp; try with_reducible rfl
            simp only [Act.put, List.setIfInBounds_toArray, List.set_cons_zero, List.set_cons_succ]
            refine take_at (i := 16) 78 undef rfl rfl (by kernel_rfl) (by kernel_rfl) (by kernel_rfl) (fun _ _ _ h => h) (.inr ⟨rfl, rfl⟩) BV.out ?_
            simp only [Act.put, List.setIfInBounds_toArray, List.set_cons_zero, List.set_cons_succ]
            refine take_at (i := 17) 79 undef rfl rfl (by kernel_rfl) (by kernel_rfl) (by kernel_rfl) (fun _ _ _ h => h) (.inr ⟨rfl, rfl⟩) BV.out ?_
            simp only [Act.put, List.setIfInBounds_toArray, List.set_cons_zero, List.set_cons_succ]
            refine take_at (i := 18) 80 undef rfl rfl (by kernel_rfl) (by kernel_rfl) (by kernel_rfl) (fun _ _ _ h => h) (.inr ⟨rfl, rfl⟩) BV.out ?_
            simp only [Act.put, List.setIfInBounds_toArray, List.set_cons_zero, List.set_cons_succ]
            refine take_at (i := 19) 81 undef rfl rfl (by kernel_rfl) (by kernel_rfl) (by kernel_rfl) (fun _ _ _ h => h) (.inr ⟨rfl, rfl⟩) BV.out ?_
            simp only [Act.put, List.setIfInBounds_toArray, List.set_cons_zero, List.set_cons_succ]
            refine take_at (i := 20) 82 undef rfl rfl (by kernel_rfl) (by kernel_rfl) (by kernel_rfl) (fun _ _ _ h => h) (.inr ⟨rfl, rfl⟩) BV.out ?_
            simp only [Act.put, List.setIfInBounds_toArray, List.set_cons_zero, List.set_cons_succ]
            refine take_at (i := 21) 83 undef rfl rfl (by kernel_rfl) (by kernel_rfl) (by kernel_rfl) (fun _ _ _ h => h) (.inr ⟨rfl, rfl⟩) BV.out ?_
            simp only [Act.put, List.setIfInBounds_toArray, List.set_cons_zero, List.set_cons_succ]
            refine take_at (i := 22) 84 undef rfl rfl (by kernel_rfl) (by kernel_rfl) (by kernel_rfl) (fun _ _ _ h => h) (.inr ⟨rfl, rfl⟩) BV.out ?_
            simp only [Act.put, List.setIfInBounds_toArray, List.set_cons_zero, List.set_cons_succ]
            refine take_at (i := 23) 85 undef rfl rfl (by kernel_rfl) (by kernel_rfl) (by kernel_rfl) (fun _ _ _ h => h) (.inr ⟨rfl, rfl⟩) BV.out ?_
            simp only [Act.put, List.setIfInBounds_toArray, List.set_cons_zero, List.set_cons_succ]
            refine take_at (i := 24) 86 undef rfl rfl (by kernel_rfl) (by kernel_rfl) (by kernel_rfl) (fun _ _ _ h => h) (.inr ⟨rfl, rfl⟩) BV.out ?_
            simp only [Act.put, List.setIfInBounds_toArray, List.set_cons_zero, List.set_cons_succ]
            refine take_at (i := 25) 87 undef rfl rfl (by kernel_rfl) (by kernel_rfl) (by kernel_rfl) (fun _ _ _ h => h) (.inr ⟨rfl, rfl⟩) BV.out ?_
            simp only [Act.put, List.setIfInBounds_toArray, List.set_cons_zero, List.set_cons_succ]
            refine take_at (i := 26) 88 undef rfl rfl (by kernel_rfl) (by kernel_rfl) (by kernel_rfl) (fun _ _ _ h => h) (.inr ⟨rfl, rfl⟩) BV.out ?_
            simp only [Act.put, List.setIfInBounds_toArray, List.set_cons_zero, List.set_cons_succ]
            refine take_at (i := 27) 89 undef rfl rfl (by kernel_rfl) (by kernel_rfl) (by kernel_rfl) (fun _ _ _ h => h) (.inr ⟨rfl, rfl⟩) BV.out ?_
            simp only [Act.put, List.setIfInBounds_toArray, List.set_cons_zero, List.set_cons_succ]
            refine take_at (i := 28) 90 ?_ rfl rfl (by kernel_rfl) (by kernel_rfl) (by kernel_rfl) (fun _ _ _ h => h) (.inl ⟨rfl, ?_⟩) BV.out ?_
            rotate_left 1
            · intro w hSw; go_simp; try with_reducible rfl
            simp only [Act.put, List.setIfInBounds_toArray, List.set_cons_zero, List.set_cons_succ]
            refine wpAnyH_done (by kernel_rfl) ?_ _
            have KF := Lib.hid (show LP w wa.drew p q mb (i + 1) from ⟨KA.out.trans (BV.out.mono KA.out.size), _, _, _, TA.out.step BV.out, G5.out⟩)
            clear BV
            go_wp2
            go_roundw
            case rel => exact ⟨i + 1, by rw [HW9.out]; rfl, HLS.out, KF⟩
            case measure => rw [HW9.out]; exact HMS.out
    · have ei : i = l.length := by omega
      subst ei
      go_wp2_with fail
      refine (AW.out wr).mono ?_
      rintro e w5 ⟨rfl, hb⟩
      have FB := Lib.hid (K.out.bel.trans (hb.mono K.out.bel.size))
      clear hb
      go_wp2
      go_returns
      exact ⟨rfl, FB.out⟩
end Go.Proofs.Ytkmeceoilighiaa
