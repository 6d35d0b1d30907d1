/- Law 23's Made; changes played, upon a cache and upon rows. -/
import Derived.Test.YthbmbpnpigpgpaaHG
set_option linter.unusedVariables false
set_option linter.unusedSimpArgs false
set_option maxRecDepth 100000
namespace Go.Proofs.Ythbmbpnpigpgpaa
open Go.RowKit Go.Shelf

theorem kmade_any (w : World) (v : Value) (l : List Rw) (h : LiesR w v l) (hl : l.length ≤ 1000) (hk : ∀ x ∈ l, x.ok) :
    Calls Try.prog 8 #[v] w fun e w' => ∃ c p b tb, e = .returned (.pointer (some ⟨c, 0, none⟩)) ∧ CN w w' c p b tb (madeF l) := by
  have N := Lib.hid (cnew_any w)
  have M := Lib.hid (fun W (hb : Below w.heap.size w W) => made_rows W v l (h.step hb) hl hk)
  obtain ⟨ao, cap, rfl⟩ := h.shape
  have RI := Lib.hid (madeF_rise l)
  have ML := Lib.hid (show (madeF l).length ≤ 1000 from Nat.le_trans (madeF_len l) hl)
  clear h hk
  go_enter Try.func8, Try.ntmps8
  go_wp2_with fail
  refine N.out.mono ?_
  rintro e w1 ⟨c, p, b, tb, rfl, hc, _, hp, hbb, _, hb⟩
  have C := Lib.hid (show CN w w1 c p b tb [] from ⟨hc, hb, hbb⟩)
  clear hc hp hbb hb N
  go_wp2_with fail
  refine (M.out w1 C.out.bel).mono ?_
  rintro e w2 ⟨q, qb, rfl, ht, _, hqb, hb⟩
  have F := Lib.hid (follow_any w w2 c p b tb q qb (madeF l) (C.out.step hb) ht (by have := C.out.ci.tab.blt; omega) ML.out)
  clear ht hqb hb M C
  go_wp2_with fail
  refine F.out.mono ?_
  rintro e w3 ⟨n, rfl, hcn⟩
  have HC := Lib.hid hcn
  clear hcn F
  go_wp2
  go_returns
  exact ⟨c, p, b, tb, rfl, HC.out⟩
/-- A change whose stamps are numbers. -/
structure OkH (x : Ch) : Prop where
  t : I64 x.t
  r : I64 x.r
  pt : I64 x.pt
  pr : I64 x.pr
theorem nst_ok {made : List Sp} (hm : ∀ m ∈ made, I64 m.1 ∧ I64 m.2) {s : List Ch × Nat} {x : Ch} (hx : OkH x) (hs : ∀ y ∈ s.1, OkH y) : ∀ y ∈ (nst made s x).1, OkH y := by
  cases hn : x.nw with
  | false =>
    rw [nst_old hn]
    intro y hy
    rcases List.mem_append.1 hy with hy | hy
    · exact hs y hy
    · rw [List.mem_singleton.1 hy]; exact hx
  | true =>
    cases hq : made[s.2]? with
    | none => rw [nst_no hn hq]; exact hs
    | some m =>
      rw [nst_new hn hq]
      intro y hy
      rcases List.mem_append.1 hy with hy | hy
      · exact hs y hy
      · rw [List.mem_singleton.1 hy]
        have := hm m (List.mem_of_getElem? hq)
        exact ⟨this.1, this.2, hx.pt, hx.pr⟩
theorem ns_ok {made : List Sp} (hm : ∀ m ∈ made, I64 m.1 ∧ I64 m.2) : ∀ (l : List Ch) (s : List Ch × Nat), (∀ x ∈ l, OkH x) → (∀ y ∈ s.1, OkH y) → ∀ y ∈ (l.foldl (nst made) s).1, OkH y
  | [], _, _, hs => hs
  | x :: l, s, hl, hs => ns_ok hm l (nst made s x) (fun y hy => hl y (List.mem_cons_of_mem _ hy)) (nst_ok hm (hl x (List.mem_cons_self ..)) hs)
theorem named_ok {made : List Sp} (hm : ∀ m ∈ made, I64 m.1 ∧ I64 m.2) {l : List Ch} (hl : ∀ x ∈ l, OkH x) : ∀ y ∈ namedF made l, OkH y := ns_ok hm l ([], 0) hl (fun y hy => by cases hy)
theorem done_len (T : List Rw) : ∀ N : List Ch, (doneF T N).length ≤ T.length + N.length := by
  intro N
  induction N generalizing T with
  | nil => simp [doneF]
  | cons x N ih =>
    have h1 := ih (setF T (rwC x))
    have h2 := setF_len T (rwC x)
    show (doneF (setF T (rwC x)) N).length ≤ T.length + (N.length + 1)
    omega
theorem bldE (W : World) (a b : Int) (s : ByteArray) (d : Bool) : (Instr.build 78 #[(0, .agg #[.int .i64 a, .int .i64 b]), (1, .string s), (2, .bool d)]).run Try.prog W = .ok (.agg #[.int .i64 a, .int .i64 b, .string s, .bool d]) W := by go_simp
theorem bldR (W : World) (a b : Int) (s : ByteArray) (d : Bool) : (Instr.build 66 #[(0, .agg #[.int .i64 a, .int .i64 b]), (1, .string s), (2, .bool d)]).run Try.prog W = .ok (.agg #[.int .i64 a, .int .i64 b, .string s, .bool d]) W := by go_simp
/-- What stands while changes are played upon a cache. -/
structure PYI (w0 w1 W : World) (c p b tb : Nat) (T : List Rw) (v : Value) (N : List Ch) : Prop where
  cn : CN w0 W c p b tb T
  row : W.ownsRow w1.heap.size 71 7 v N.length (N.flatMap encH)
  gw : w1.grownBy W (some b)
theorem PYI.step {w0 w1 W W' : World} {c p b tb : Nat} {T : List Rw} {v : Value} {N : List Ch} (h : PYI w0 w1 W c p b tb T v N) (hb : Below W.heap.size W W') : PYI w0 w1 W' c p b tb T v N := ⟨h.cn.step hb, own_belowK h.row hb, h.gw.trans (below_grown hb _)⟩
theorem PYI.put {w0 w1 W W' : World} {c p b tb : Nat} {T T' : List Rw} {v : Value} {N : List Ch} (h : PYI w0 w1 W c p b tb T v N) (hb1 : b < w1.heap.size) (ho : COut W W' c p b tb T') : PYI w0 w1 W' c p b tb T' v N :=
  ⟨h.cn.out ho, own_grown h.row ho.grow (fun j hj e => by have := (h.row.lt j hj).1; injection e with e; omega), h.gw.trans ho.grow⟩
set_option maxHeartbeats 6400000 in
theorem play_any (w0 w : World) (c p b tb : Nat) (T : List Rw) (v u : Value) (l : List Ch) (made : List Sp) (h : CN w0 w c p b tb T) (hv : LiesK encH 7 w v l) (hu : LiesK encS 2 w u made) (hl : l.length ≤ 1000) (hml : made.length ≤ 1000) (hT : T.length ≤ 1000)
    (hok : ∀ x ∈ l, OkH x) (hmk : ∀ m ∈ made, I64 m.1 ∧ I64 m.2) :
    Calls Try.prog 11 #[.pointer (some ⟨c, 0, none⟩), v, u] w fun e w' => e = .returned (.int .i64 ((namedF made l).length : Nat)) ∧ CN w0 w' c p b tb (doneF T (namedF made l)) ∧ w.grownBy w' (some b) := by
  have NM := Lib.hid (named_any w v u l made hv hu hl hml)
  have HC := Lib.hid h
  have OK := Lib.hid (named_ok hmk hok)
  have NLE := Lib.hid (show (namedF made l).length ≤ 1000 from Nat.le_trans (named_len made l) hl)
  obtain ⟨va, vc, rfl⟩ := hv.shape
  obtain ⟨ua, uc, rfl⟩ := hu.shape
  have HBW := Lib.hid (show b < w.heap.size from h.ci.tab.blt)
  clear h hv hu hok hmk
  go_enter Try.func11, Try.ntmps11
  go_wp2_with fail
  refine NM.out.mono ?_
  rintro e w1 ⟨r, rfl, ho, hb⟩
  obtain ⟨na, nc, rfl⟩ := own_shapeK ho
  have J0 := Lib.hid (show PYI w0 w w1 c p b tb (doneF T ((namedF made l).take 0)) (.slice na (namedF made l).length nc) (namedF made l) from ⟨HC.out.step hb, ho, below_grown hb _⟩)
  clear ho hb NM
  obtain ⟨N, hN⟩ : ∃ z, namedF made l = z := ⟨_, rfl⟩
  have HN := Lib.hid hN
  rw [hN] at J0 OK NLE
  try rw [hN]
  clear hN
  go_wp2_with fail
  go_loopw [7, 14] (fun dv kv wr => ∃ i : Nat, kv = .int .i64 i ∧ i ≤ N.length ∧ dv = .int .i64 i ∧ Hid (PYI w0 w wr c p b tb (doneF T (N.take i)) (.slice na N.length nc) N)) (fun _ kv _ => N.length - (intOf kv).toNat)
  case atStart => exact ⟨0, rfl, Nat.zero_le _, rfl, J0⟩
  case round =>
    clear J0
    obtain ⟨i, rfl, hi, rfl, K⟩ := hrel
    by_cases hlt : i < N.length
    · have hi0 : (0 : Int) ≤ (i : Int) := by omega
      have hi1 : (i : Int) < (N.length : Int) := by omega
      have hd : decide ((i : Int) < (N.length : Int)) = true := decide_eq_true hi1
      obtain ⟨g, o, x, e7, hx, hg, hc⟩ := (own_liesK encH_len K.out.row).at' hlt
      have LX := Lib.hid (ldC71 (ChAt.of hc))
      have DS := Lib.hid (done_snoc (T := T) hx)
      have XK := Lib.hid (OK.out x (List.mem_of_getElem? hx))
      have TL := Lib.hid (show (doneF T (N.take i)).length < 1000000 from by have h1 := done_len T (N.take i); rw [List.length_take] at h1; have := NLE.out; omega)
      have K5 := Lib.hid (K.out.step (vstep wr (.cells (#[.bool x.nw, .int .i64 x.t, .int .i64 x.r, .int .i64 x.pt, .int .i64 x.pr, .string x.nm, .bool x.d]) 71)))
      have N5 := Lib.hid (show (wr.alloc (.cells (#[.bool x.nw, .int .i64 x.t, .int .i64 x.r, .int .i64 x.pt, .int .i64 x.pr, .string x.nm, .bool x.d]) 71)).heap[wr.heap.size]? = some (.cells (encH x).toArray 71 (0, 0)) from heap_alloc_new wr _)
      clear hx hg hc K
      subst e7
      go_upto_region 5 with (first
        | (refine wpList_ldG rfl (.tmp 16) 71 rfl (.pointer (some ⟨g, o + i * 7, none⟩)) (.agg #[.bool x.nw, .int .i64 x.t, .int .i64 x.r, .int .i64 x.pt, .int .i64 x.pr, .string x.nm, .bool x.d]) rfl LX.out ?_))
      obtain ⟨kb, hkb⟩ : ∃ k, wr.heap.size = k := ⟨_, rfl⟩
      rw [hkb] at N5 ⊢
      generalize (wr.alloc (.cells (#[.bool x.nw, .int .i64 x.t, .int .i64 x.r, .int .i64 x.pt, .int .i64 x.pr, .string x.nm, .bool x.d]) 71)) = w5 at *
      clear hkb LX
      obtain ⟨c0, c1, c2, c3, c4, c5, c6⟩ := ChAt.row N5.out
      have ST := Lib.hid (cset_any w5 c p b tb (doneF T (N.take i)) K5.out.cn.ci TL.out (rwC x) ⟨XK.out.t, XK.out.r, XK.out.pt, XK.out.pr⟩)
      go_wp2_with fail
      refine ST.out.mono ?_
      rintro e w6 ⟨rfl, ho⟩
      have K6 := Lib.hid (show PYI w0 w w6 c p b tb (doneF T (N.take (i + 1))) (.slice (some ⟨g, o, none⟩) N.length nc) N from by rw [DS.out]; exact K5.out.put HBW.out ho)
      clear ho ST K5 N5 c0 c1 c2 c3 c4 c5 c6
      have hnle := NLE.out
      go_wp2_with fail
      go_roundw
      case rel => exact ⟨i + 1, by go_num, by omega, by go_num, K6⟩
      case measure => simp [intOf]; omega
    · have ei : i = N.length := by omega
      subst ei
      have FIN := Lib.hid (show CN w0 wr c p b tb (doneF T N) ∧ w.grownBy wr (some b) from by
        have h := K.out.cn
        rw [List.take_length] at h
        exact ⟨h, K.out.gw⟩)
      clear K
      go_wp2
      go_returns
      exact ⟨by rw [HN.out]; rfl, by rw [HN.out]; exact FIN.out⟩
set_option maxHeartbeats 6400000 in
theorem rplay_any (w : World) (t v u : Value) (T : List Rw) (l : List Ch) (made : List Sp) (h : LiesR w t T) (hv : LiesK encH 7 w v l) (hu : LiesK encS 2 w u made) (hl : l.length ≤ 100) (hml : made.length ≤ 1000) (hT : T.length ≤ 100) (hr : Rise T) :
    Calls Try.prog 19 #[t, v, u] w fun e w' => ∃ r, e = .returned r ∧ LiesR w' r (doneF T (namedF made l)) ∧ Below w.heap.size w w' := by
  have NM := Lib.hid (rnamed_any w v u l made hv hu (by omega) hml)
  have HT := Lib.hid h
  have NLE := Lib.hid (show (namedF made l).length ≤ 100 from Nat.le_trans (named_len made l) hl)
  have DR := Lib.hid (fun N => done_rise hr N)
  obtain ⟨va, vc, rfl⟩ := hv.shape
  obtain ⟨ua, uc, rfl⟩ := hu.shape
  obtain ⟨ta, tc, rfl⟩ := h.shape
  clear h hv hu hr
  go_enter Try.func19, Try.ntmps19
  go_wp2_with fail
  refine NM.out.mono ?_
  rintro e w1 ⟨r, rfl, ho, hb⟩
  obtain ⟨na, nc, rfl⟩ := own_shapeK ho
  have NR := Lib.hid (own_liesK encH_len ho)
  have J0 := Lib.hid (show Below w.heap.size w w1 ∧ LiesR w1 (.slice ta T.length tc) (doneF T ((namedF made l).take 0)) ∧ Below w1.heap.size w1 w1 from ⟨hb, HT.out.step hb, Below.refl _ _⟩)
  clear ho hb NM
  obtain ⟨N, hN⟩ : ∃ z, namedF made l = z := ⟨_, rfl⟩
  have HN := Lib.hid hN
  rw [hN] at J0 NR NLE
  try rw [hN]
  clear hN
  go_wp2_with fail
  go_loopw [0, 8] (fun tv kv wr => ∃ i : Nat, kv = .int .i64 i ∧ i ≤ N.length ∧ Hid (Below w.heap.size w wr ∧ LiesR wr tv (doneF T (N.take i)) ∧ Below w1.heap.size w1 wr)) (fun _ kv _ => N.length - (intOf kv).toNat)
  case atStart => exact ⟨0, rfl, Nat.zero_le _, J0⟩
  case round =>
    clear J0
    obtain ⟨i, rfl, hi, K⟩ := hrel
    obtain ⟨ra, rc, rfl⟩ := K.out.2.1.shape
    by_cases hlt : i < N.length
    · have hi0 : (0 : Int) ≤ (i : Int) := by omega
      have hi1 : (i : Int) < (N.length : Int) := by omega
      have hd : decide ((i : Int) < (N.length : Int)) = true := decide_eq_true hi1
      obtain ⟨g, o, x, e7, hx, hg, hc⟩ := (NR.out.step K.out.2.2).at' hlt
      subst e7
      have LX := Lib.hid (ldC63 (ChAt.of hc))
      have DS := Lib.hid (done_snoc (T := T) hx)
      have TL := Lib.hid (show (doneF T (N.take i)).length ≤ 1000 from by have h1 := done_len T (N.take i); rw [List.length_take] at h1; have := NLE.out; omega)
      have B5 := vstep wr (.cells (#[.bool x.nw, .int .i64 x.t, .int .i64 x.r, .int .i64 x.pt, .int .i64 x.pr, .string x.nm, .bool x.d]) 63)
      have K5 := Lib.hid (And.intro (K.out.1.trans (B5.mono K.out.1.size)) (And.intro (K.out.2.1.step B5) (K.out.2.2.trans (B5.mono K.out.2.2.size))))
      have N5 := Lib.hid (show (wr.alloc (.cells (#[.bool x.nw, .int .i64 x.t, .int .i64 x.r, .int .i64 x.pt, .int .i64 x.pr, .string x.nm, .bool x.d]) 63)).heap[wr.heap.size]? = some (.cells (encH x).toArray 63 (0, 0)) from heap_alloc_new wr _)
      clear hx hg hc K B5
      go_upto_region 6 with (first
        | (refine wpList_ldG rfl (.tmp 21) 63 rfl (.pointer (some ⟨g, o + i * 7, none⟩)) (.agg #[.bool x.nw, .int .i64 x.t, .int .i64 x.r, .int .i64 x.pt, .int .i64 x.pr, .string x.nm, .bool x.d]) rfl LX.out ?_))
      obtain ⟨kb, hkb⟩ : ∃ k, wr.heap.size = k := ⟨_, rfl⟩
      rw [hkb] at N5 ⊢
      generalize (wr.alloc (.cells (#[.bool x.nw, .int .i64 x.t, .int .i64 x.r, .int .i64 x.pt, .int .i64 x.pr, .string x.nm, .bool x.d]) 63)) = w5 at *
      clear hkb LX
      obtain ⟨c0, c1, c2, c3, c4, c5, c6⟩ := ChAt.row N5.out
      have ST := Lib.hid (rset_any w5 _ (doneF T (N.take i)) (rwC x) K5.out.2.1 TL.out (DR.out _))
      go_wp2_with fail
      refine ST.out.mono ?_
      rintro e w6 ⟨r6, rfl, ho, hb⟩
      have K6 := Lib.hid (show Below w.heap.size w w6 ∧ LiesR w6 r6 (doneF T (N.take (i + 1))) ∧ Below w1.heap.size w1 w6 from ⟨K5.out.1.trans (hb.mono K5.out.1.size), by rw [DS.out]; exact own_liesK enc6_len ho, K5.out.2.2.trans (hb.mono K5.out.2.2.size)⟩)
      clear ho hb ST K5 N5 c0 c1 c2 c3 c4 c5 c6
      have hnle := NLE.out
      go_wp2_with fail
      go_roundw
      case rel => exact ⟨i + 1, by go_num, by omega, K6⟩
      case measure => simp [intOf]; omega
    · have ei : i = N.length := by omega
      subst ei
      have FIN := Lib.hid (show Below w.heap.size w wr ∧ LiesR wr (.slice ra (doneF T (N.take N.length)).length rc) (doneF T N) from ⟨K.out.1, by have h := K.out.2.1; rw [List.take_length] at h ⊢; exact h⟩)
      clear K
      go_wp2
      go_returns
      exact ⟨_, rfl, by rw [HN.out]; exact FIN.out.2, FIN.out.1⟩
end Go.Proofs.Ythbmbpnpigpgpaa
