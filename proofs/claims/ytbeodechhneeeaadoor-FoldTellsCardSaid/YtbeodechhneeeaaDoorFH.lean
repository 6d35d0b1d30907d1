/- The reference's Set, Of, Idle. Made by genfh15.py. -/
import Derived.Test.YtbeodechhneeeaaDoorFG
set_option linter.unusedVariables false
set_option linter.unusedSimpArgs false
set_option maxRecDepth 100000
namespace Go.Proofs.YtbeodechhneeeaaDoor
open Go.RowKit Go.Shelf
open Tb (Rw setF getF aboveF Rise TabI TM LiesK LiesR ltS encS Sp Sprung)

theorem rnil : Rise ([] : List Rw) := List.Pairwise.nil
theorem frs_keep {n m : Nat} {W : World} {v : Value} (h : Frs m W v) (hs : n ≤ m) : Frs n W v := fun k e => ⟨Nat.le_trans hs (h k e).1, (h k e).2⟩
set_option maxHeartbeats 3200000 in
theorem rsetO_any (w : World) (v : Value) (l : List O) (h : OLies w v l) (hsz : ∀ o ∈ l, o.nm.size ≤ 9223372036854775807) (hl : l.length ≤ 1000) (hu : (uniqF l).length ≤ 79) :
    Calls Tryd.prog 10 #[v] w fun e w' => ∃ r, e = .returned r ∧ OLies w' r (setO l) ∧ Below w.heap.size w w' ∧ Frs w.heap.size w' r := by
  have C := Lib.hid (uniq_any w v l h hsz hl)
  obtain ⟨ao, cap, rfl⟩ := h.shape
  clear h hsz
  go_enter Tryd.func10, Tryd.ntmps10
  go_wp2_with fail
  refine C.out.mono ?_
  rintro e w1 ⟨r, rfl, ho, hb⟩
  have S := Lib.hid (rsorted_any w1 r (uniqF l) (own_olies ho) (by omega))
  obtain ⟨ra, rc, rfl⟩ := Ve.own_shape ho
  have HB := Lib.hid hb
  clear ho hb C
  go_wp2_with fail
  refine S.out.mono ?_
  rintro e w2 ⟨r2, rfl, hol, hb2, hf⟩
  have F := Lib.hid (show OLies w2 r2 (setO l) ∧ Below w.heap.size w w2 ∧ Frs w.heap.size w2 r2 from ⟨hol, HB.out.trans (hb2.mono HB.out.size), frs_keep hf HB.out.size⟩)
  obtain ⟨sa, sc, rfl⟩ := hol.shape
  clear hol hb2 hf S
  go_wp2
  go_returns
  exact ⟨_, rfl, F.out⟩
set_option maxHeartbeats 3200000 in
theorem rof_any (w : World) (v : Value) (l : List O) (h : OLies w v l) (hsz : ∀ o ∈ l, o.nm.size ≤ 9223372036854775807) (hl : l.length ≤ 1000) (hu : (uniqF l).length ≤ 79) :
    Calls Tryd.prog 21 #[v] w fun e w' => ∃ r, e = .returned r ∧ LiesR w' r (playF [] (setO l)) ∧ Below w.heap.size w w' := by
  have C := Lib.hid (rsetO_any w v l h hsz hl hu)
  obtain ⟨ao, cap, rfl⟩ := h.shape
  clear h hsz
  go_enter Tryd.func21, Tryd.ntmps21
  go_wp2_with fail
  refine C.out.mono ?_
  rintro e w1 ⟨r, rfl, ho, hb, -⟩
  have S := Lib.hid (rplay_any w1 (.slice none 0 0) [] (LiesK.nil _) rnil r (setO l) ho (by rw [show (setO l).length = (uniqF l).length from srtO_len _]; simp; omega))
  obtain ⟨ra, rc, rfl⟩ := ho.shape
  have HB := Lib.hid hb
  clear ho hb C
  go_wp2_with fail
  refine S.out.mono ?_
  rintro e w2 ⟨r2, rfl, hol, hb2, -⟩
  have F := Lib.hid (show LiesR w2 r2 (playF [] (setO l)) ∧ Below w.heap.size w w2 from ⟨hol, HB.out.trans (hb2.mono HB.out.size)⟩)
  obtain ⟨sa, sc, rfl⟩ := hol.shape
  clear hol hb2 S
  go_wp2
  go_returns
  exact ⟨_, rfl, F.out⟩
/-! ### Idle -/
theorem wpList_pushS {α : Type} {enc : α → List Value} {k : Nat} {P : Program} {w : World} {ops : Array Oper} {rest : List Oper} {o : Oper} {a : Act} {Q : Exit → Act → World → Prop} (hgd : o.guard = none) (s x : Operand) (t : TypeId)
    (ho : o.op = .call { callee := .builtin .append, args := #[s, x], argTypes := #[t, t] }) (hk : ∀ x, (enc x).length = k) (hk0 : 0 < k) (h1 : ∀ x, ∀ v ∈ enc x, v.oneCell' = true)
    (base : Nat) (e : TypeId) (i : TypeInfo) (z : Value) (bytes : Nat) (ht : P.underlying t = some (.slice e)) (hi : P.info? e = some i) (hz : i.zero = some z)
    (hsize : i.size = k) (hby : i.bytes = bytes) (hzs : z.cells.size = k)
    (v : Value) (l : List α) (p : α) (g : Nat) (hs : a.eval s = v) (hx : a.eval x = .slice (some ⟨g, 0, none⟩) 1 1) (hb : w.heap[g]? = some (.cells (enc p).toArray e (0, 0))) (hown : w.ownsRow base e k v l.length (l.flatMap enc))
    (h63 : l.length + 1 ≤ maxLen) (hbytes : (l.length + 1) * bytes ≤ 140737488355328) (hbase : base ≤ w.heap.size)
    (h : ∀ v' w', w'.ownsRow base e k v' (l ++ [p]).length ((l ++ [p]).flatMap enc) → w.grownBy w' v.ownBlock → Sprung w v v' → wpList P ops Q rest (a.put o.dst v') w') : wpList P ops Q (o :: rest) a w := by
  have hsrc := (Tb.one_liesK hk hb).src ht hk hk0 h1
  refine Tb.wpList_append_src_own hgd s x t t ho base e i z k bytes ht hi hz hsize hby hzs hk0 v l.length _ hs hown _ 1 ([p].flatMap enc) hx hsrc h63 hbytes hbase ?_
  intro v' w' a1 a2 a3
  exact h v' w' (by rw [List.length_append, List.flatMap_append]; exact a1) a2 a3
theorem liesK_grown {α : Type} {enc : α → List Value} {k : Nat} {W W' : World} {v : Value} {l : List α} {ob : Option Nat} (h : LiesK enc k W v l) (hg : W.grownBy W' ob) (hne : ∀ j, v.ownBlock = some j → ob ≠ some j) : LiesK enc k W' v l := by
  obtain ⟨ao, cap, rfl, hn, hm, h0, hc⟩ := h
  refine ⟨ao, cap, rfl, hn, hm, h0, fun b hbb hx => ?_⟩
  obtain ⟨g, o, rfl, hk, hc2⟩ := hc b hbb hx
  subst hbb
  refine ⟨g, o, rfl, Nat.lt_of_lt_of_le hk hg.size, fun j p hj i u hi => (World.cell?_of_block (hg.block g hk (fun e => hne g rfl e.symm))).trans (hc2 j p hj i u hi)⟩
/-- What stands in Idle's loop: the table's slice and the stamps'. -/
structure RID (w1 W : World) (tv iv : Value) (T : List Rw) (I : List Sp) : Prop where
  bel : Below w1.heap.size w1 W
  tab : LiesR W tv T
  row : W.ownsRow w1.heap.size 46 2 iv I.length (I.flatMap encS)
  ne : ∀ k, tv.ownBlock = some k → iv.ownBlock ≠ some k
  lt : ∀ k, tv.ownBlock = some k → k < W.heap.size
theorem RID.step {w1 W W' : World} {tv tv' iv : Value} {T T' : List Rw} {I : List Sp} (h : RID w1 W tv iv T I) (hb : Below W.heap.size W W') (ht : LiesR W' tv' T') (hs : Spr W.heap.size W' tv tv') : RID w1 W' tv' iv T' I :=
  ⟨h.bel.trans (hb.mono h.bel.size), ht, own_below h.row hb, fun k e => by
    rcases hs k e with q | q
    · exact h.ne k q
    · intro e2; have := h.row.lt k e2; omega, fun k e => by
    rcases hs k e with q | q
    · exact Nat.lt_of_lt_of_le (h.lt k q) hb.size
    · exact q.2⟩
theorem RID.push {w1 W W' : World} {tv iv iv' : Value} {T : List Rw} {I I' : List Sp} (h : RID w1 W tv iv T I) (ho : W'.ownsRow w1.heap.size 46 2 iv' I'.length (I'.flatMap encS)) (hg : W.grownBy W' iv.ownBlock) (hs : Sprung W iv iv') : RID w1 W' tv iv' T I' :=
  ⟨h.bel.grown hg h.bel.size (fun k e => (h.row.lt k e).1), liesK_grown h.tab hg h.ne, ho, fun k e => by
    rcases hs with q | ⟨j, q, hj⟩
    · rw [q]; exact h.ne k e
    · rw [q]; intro e2; injection e2 with e2; have := h.lt k e; omega, fun k e => Nat.lt_of_lt_of_le (h.lt k e) hg.size⟩
set_option maxHeartbeats 12800000 in
theorem ridle_any (w : World) (v : Value) (l : List O) (h : OLies w v l) (hsz : ∀ o ∈ l, o.nm.size ≤ 9223372036854775807) (hl : l.length ≤ 1000) (hu : (uniqF l).length ≤ 79) :
    Calls Tryd.prog 24 #[v] w fun e w' => ∃ r, e = .returned r ∧ LiesK encS 2 w' r (idleF [] (setO l)) ∧ Below w.heap.size w w' := by
  obtain ⟨i0, hi9, hz0, hz1, hz2⟩ := info_parts Tb.info24
  have C := Lib.hid (rsetO_any w v l h hsz hl hu)
  have SLN := Lib.hid (show (setO l).length ≤ 79 from by show (srtO (uniqF l)).length ≤ 79; rw [srtO_len]; exact hu)
  obtain ⟨ao, cap, rfl⟩ := h.shape
  obtain ⟨SS, hSS⟩ : ∃ z, setO l = z := ⟨_, rfl⟩
  rw [hSS] at C SLN ⊢
  clear h hsz hu hSS
  go_enter Tryd.func24, Tryd.ntmps24
  go_wp2_with fail
  refine C.out.mono ?_
  rintro e w1 ⟨rv, rfl, ho, hb, -⟩
  have HO := Lib.hid ho
  have HB := Lib.hid hb
  obtain ⟨ra, rc, rfl⟩ := ho.shape
  have J0 := Lib.hid (show RID w1 w1 (.slice none 0 0) (.slice none 0 0) (playF [] (SS.take 0)) (idleF [] (SS.take 0)) from ⟨Below.refl _ _, LiesK.nil _, (by simpa [idleF] using World.ownsRow_nil _ _ _ _), (fun k e => by cases e), (fun k e => by cases e)⟩)
  clear ho hb C
  go_wp2_with fail
  go_loopw [4, 5, 6] (fun tv sv iv wr => ∃ i : Nat, iv = .int .i64 i ∧ i ≤ SS.length ∧ Hid (RID w1 wr tv sv (playF [] (SS.take i)) (idleF [] (SS.take i)))) (fun _ _ iv _ => SS.length - (intOf iv).toNat)
  case atStart => exact ⟨0, rfl, Nat.zero_le _, J0⟩
  case round =>
    clear J0
    obtain ⟨i, rfl, hi, K⟩ := hrel
    obtain ⟨ta, tc, htv⟩ := K.out.tab.shape
    subst htv
    obtain ⟨ia, ic, hiv⟩ := Tb.own_shapeK K.out.row
    subst hiv
    by_cases hlt : i < SS.length
    · have hi0 : (0 : Int) ≤ (i : Int) := by omega
      have hi1 : (i : Int) < (SS.length : Int) := by omega
      have hd : decide ((i : Int) < (SS.length : Int)) = true := decide_eq_true hi1
      have HL1 := Lib.hid (show i + 1 ≤ SS.length from hlt)
      have HW9 := Lib.hid (wrap_nat hlt (show SS.length ≤ 100000 by have := SLN.out; omega))
      have HMS := Lib.hid (meas_nat hlt)
      obtain ⟨g, k, x, e7, hx, hg, hc⟩ := (HO.out.step K.out.bel).atK hlt
      subst e7
      have LX := Lib.hid (@ldO wr g (k + i * 9) x hc)
      have PS := Lib.hid (play_snoc [] hx)
      have IS := Lib.hid (idle_snoc [] hx)
      have ON := Lib.hid (one_any wr _ _ x K.out.tab (by have := play_len (SS.take i) []; rw [List.length_take] at this; have := SLN.out; simp at *; omega) (play_rise (SS.take i) rnil))
      have ILN := Lib.hid (show (idleF [] (SS.take i)).length ≤ 79 from by have := idle_len (SS.take i) []; rw [List.length_take] at this; have := SLN.out; omega)
      obtain ⟨T, hT⟩ : ∃ z, playF [] (SS.take i) = z := ⟨_, rfl⟩
      obtain ⟨II, hII⟩ : ∃ z, idleF [] (SS.take i) = z := ⟨_, rfl⟩
      obtain ⟨sk, hsk⟩ : ∃ z, skipF T x = z := ⟨_, rfl⟩
      rw [hT] at ON PS IS K
      rw [hII] at IS ILN K
      rw [hsk] at ON IS
      have CC := Lib.hid (show ∀ W, Below wr.heap.size wr W → W.cell? ⟨g, k + i * 9, none⟩ = some (.int .i64 x.t) ∧ W.cell? ⟨g, k + i * 9 + 1, none⟩ = some (.int .i64 x.r) from fun W hb => ⟨(hb.cell (p := ⟨g, k + i * 9 + 0, none⟩) hg).trans (hc 0 _ rfl), (hb.cell (p := ⟨g, k + i * 9 + 1, none⟩) hg).trans (hc 1 _ rfl)⟩)
      try rw [hT]
      try rw [hII]
      clear hx hg hc hT hII hsk
      go_wp2_with (first | (refine Ve.wpList_load_arr rfl (.tmp 21) 48 rfl (.pointer (some ⟨g, k + i * 9, none⟩)) (oV x) rfl LX.out ?_))
      refine ON.out.mono ?_
      rintro e w5 ⟨rv, rfl, hl5, hb, hsp⟩
      have K5 := Lib.hid (show RID w1 w5 rv (.slice ia II.length ic) (playF [] (SS.take (i + 1))) II from K.out.step hb (by rw [PS.out]; exact hl5) hsp)
      have L24 := Lib.hid (ld24 (CC.out w5 hb).1 (CC.out w5 hb).2)
      obtain ⟨ra5, rc5, hrv⟩ := hl5.shape
      subst hrv
      clear hl5 hb hsp ON LX CC K
      cases sk with
      | false =>
        have KF := Lib.hid (show RID w1 w5 (.slice ra5 (doF T x).length rc5) (.slice ia II.length ic) (playF [] (SS.take (i + 1))) (idleF [] (SS.take (i + 1))) from by
          rw [IS.out, if_neg (by simp), List.append_nil]; exact K5.out)
        clear K5 IS
        go_wp2
        go_roundw
        case rel => exact ⟨i + 1, by first | (rw [HW9.out]; rfl) | go_num, HL1.out, KF⟩
        case measure => first | (rw [HW9.out]; exact HMS.out) | exact HMS.out
      | true =>
        have BS := bs_st w5 x.t x.r
        have B6 := pl_vstep w5 (.cells #[.int .i64 x.t, .int .i64 x.r] 46)
        have H6 := Lib.hid (show (w5.alloc (.cells #[.int .i64 x.t, .int .i64 x.r] 46)).heap[w5.heap.size]? = some (.cells (encS (x.t, x.r)).toArray 46 (0, 0)) from heap_alloc_new w5 _)
        have K6 := Lib.hid (show RID w1 (w5.alloc (.cells #[.int .i64 x.t, .int .i64 x.r] 46)) (.slice ra5 (doF T x).length rc5) (.slice ia II.length ic) (playF [] (SS.take (i + 1))) II from K5.out.step B6 (K5.out.tab.step B6) (Spr.refl _ _ _))
        have Q6 := Lib.hid (And.intro (show II.length + 1 ≤ maxLen from by have := ILN.out; unfold maxLen; omega) (And.intro (show (II.length + 1) * 16 ≤ 140737488355328 from by have := ILN.out; omega) (show w1.heap.size ≤ (w5.alloc (.cells #[.int .i64 x.t, .int .i64 x.r] 46)).heap.size from K6.out.bel.size)))
        have HLN := Lib.hid (show (II ++ [(x.t, x.r)]).length = II.length + 1 from by simp)
        have ES := Lib.hid (show idleF [] (SS.take (i + 1)) = II ++ [(x.t, x.r)] from by rw [IS.out, if_pos rfl])
        clear B6 K5 IS
        go_wp2_with (first
          | (refine Ve.wpList_load_arr rfl (.tmp 33) 46 rfl (.pointer (some ⟨g, k + i * 9, none⟩)) (.agg #[.int .i64 x.t, .int .i64 x.r]) rfl L24.out ?_)
          | (at_builtin; refine wpList_pushS rfl (.tmp 29) (.tmp 35) 43 rfl Tb.encS_len (by decide) Tb.encS_one w1.heap.size 46 i0 (.agg #[.int .i64 0, .int .i64 0]) 16 Tb.Tryd.u43 hi9 hz0 hz1 hz2 rfl (.slice ia II.length ic) II (x.t, x.r) w5.heap.size rfl rfl H6.out K6.out.row Q6.out.1 Q6.out.2.1 Q6.out.2.2 ?_; intro v6 w6 hown hgr hsp; have KF := Lib.hid (show RID w1 w6 (.slice ra5 (doF T x).length rc5) v6 (playF [] (SS.take (i + 1))) (idleF [] (SS.take (i + 1))) from by rw [ES.out]; exact K6.out.push hown hgr hsp); obtain ⟨va6, vc6, hv6⟩ := Tb.own_shapeK hown; rw [HLN.out] at hv6; subst hv6; clear hown hgr hsp))
        go_roundw
        case rel => exact ⟨i + 1, by first | (rw [HW9.out]; rfl) | go_num, HL1.out, KF⟩
        case measure => first | (rw [HW9.out]; exact HMS.out) | exact HMS.out
    · have ei : i = SS.length := by omega
      subst ei
      have FIN := Lib.hid K.out
      simp only [List.take_length] at FIN ⊢
      have FF := Lib.hid (And.intro (Tb.own_liesK (enc := encS) (k := 2) (fun _ => rfl) FIN.out.row) (HB.out.trans (FIN.out.bel.mono HB.out.size)))
      clear K FIN
      go_wp2
      go_returns
      exact ⟨_, rfl, FF.out.1, FF.out.2⟩
end Go.Proofs.YtbeodechhneeeaaDoor
