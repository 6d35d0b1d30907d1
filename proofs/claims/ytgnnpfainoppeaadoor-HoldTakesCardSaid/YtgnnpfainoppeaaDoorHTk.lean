/- HoldTakes returns true for every input. The row lists three tables of the library with what they hold; the card ties them to the program's text (the pruned copy that the roots load). Merged by tools/merge.py: RK, RM, HCard4, HTakes. -/
import Derived.Test.YtgnnpfainoppeaaDoorHCard2
import Derived.Test.YtgnnpfainoppeaaDoorHX
import Derived.Test.YtgnnpfainoppeaaDoorRALL
import Derived.Deep.RegionHeldLaw
import Derived.Deep.CutRange
import Derived.ProofKit
import Derived.LaidMore
import Derived.OpenShut
import Derived.Stop.Joined
import Derived.SevenTiedAt
import Derived.Carry
import Derived.Lib.SmallJoins
import Derived.Deep.Slices
import Derived.Shelf.Vars
import Derived.Lay

set_option linter.unusedVariables false
set_option linter.unusedSimpArgs false
set_option maxRecDepth 100000
namespace Go.Proofs.YtgnnpfainoppeaaDoor
open Go.RowKit
open Ve (zs zs_len vw va Rg LiesR)

theorem own_liesR {w : World} {B : Nat} {v : Value} {l : List Rg} (h : w.ownsRow B 70 3 v l.length (Ve.cs3 l)) (hl : l.length ≤ 1000) : LiesR w v l := by
  have get3 : ∀ (l : List Rg) (j : Nat) p, l[j]? = some p → (Ve.cs3 l)[j * 3]? = some (.int .i64 p.1) ∧ (Ve.cs3 l)[j * 3 + 1]? = some (.int .i64 p.2.1) ∧ (Ve.cs3 l)[j * 3 + 2]? = some (.int .i64 p.2.2) := by
    intro l
    induction l with
    | nil => intro j p h; cases h
    | cons a l ih =>
      intro j p h
      cases j with
      | zero => injection h with h; subst h; exact ⟨rfl, rfl, rfl⟩
      | succ j =>
        obtain ⟨h1, h2, h3⟩ := ih j p (by simpa using h)
        refine ⟨?_, ?_, ?_⟩
        · rw [show (j + 1) * 3 = j * 3 + 1 + 1 + 1 by omega]; exact h1
        · rw [show (j + 1) * 3 + 1 = (j * 3 + 1) + 1 + 1 + 1 by omega]; exact h2
        · rw [show (j + 1) * 3 + 2 = (j * 3 + 2) + 1 + 1 + 1 by omega]; exact h3
  rcases h.2 with ⟨rfl, hn⟩ | ⟨g, cap, cur, rfl, hB, hg, hn, hm, hs, ht⟩
  · have : l = [] := List.eq_nil_of_length_eq_zero hn
    subst this
    exact ⟨none, 0, rfl, Nat.zero_le _, fun _ => rfl, fun b hb => by cases hb⟩
  · refine ⟨_, cap, rfl, hl, (fun e => by cases e), fun b hb _ => ?_⟩
    injection hb with hb
    subst hb
    refine ⟨g, 0, rfl, lt_of_block hg, fun j p hp => ?_⟩
    obtain ⟨c0, c1, c2⟩ := get3 l j p hp
    have f := fun i u (hu : (Ve.cs3 l)[i]? = some u) => (show w.cell? ⟨g, i, none⟩ = some u from by
      have := h.cells (g := g) rfl i u hu
      rwa [add_addr, Nat.zero_add] at this)
    rw [Nat.zero_add]
    exact ⟨f _ _ c0, f _ _ c1, f _ _ c2⟩
theorem step_append_src_own' {P : Program} {w : World} {ops : Array Oper} {o : Oper} {a : Act} {K : Act → World → Prop} {Q : Exit → Act → World → Prop} {E : Prop} (hgd : o.guard = none) (s x : Operand) (t tx : TypeId)
    (ho : o.op = .call { callee := .builtin .append, args := #[s, x], argTypes := #[t, tx] })
    (base : Nat) (e : TypeId) (i : TypeInfo) (z : Value) (size bytes : Nat) (ht : P.underlying t = some (.slice e)) (hi : P.info? e = some i) (hz : i.zero = some z)
    (hsize : i.size = size) (hby : i.bytes = bytes) (hzs : z.cells.size = size) (hsz : 0 < size)
    (v : Value) (n : Nat) (xs : List Value) (hs : a.eval s = v) (hown : w.ownsRow base e size v n xs) (xv : Value) (m : Nat) (news : List Value) (hx : a.eval x = xv) (hsrc : Src P size tx xv m news w)
    (h63 : n + m ≤ maxLen) (hbytes : (n + m) * bytes ≤ 140737488355328) (hbase : base ≤ w.heap.size)
    (h : ∀ v' w', w'.ownsRow base e size v' (n + m) (xs ++ news) → w.grownBy w' v.ownBlock → K (a.put o.dst v') w') :
    if Region.wanted o (yielded ops a.tmps) = true then Oper.wp P o a w K Q else E := by
  have hw : Region.wanted o (yielded ops a.tmps) = true := by simp [Region.wanted, hgd]
  rw [if_pos hw]
  obtain ⟨v', w', hr, h2, h3, h4⟩ := Wi.run_append_src_own (P := P) w base t tx o.type e i z size bytes ht hi hz hsize hby hzs hsz v n xs hown xv m news hsrc h63 hbytes hbase
  unfold Oper.wp
  simp only [execOp, ho, resolve, invoke, builtin, Sem.run_bind, Sem.run_pure, Result.andThen_ok, List.map_toArray, List.map_cons, List.map_nil, hs, hx, hr]
  exact h v' w' h2 h3
theorem Ve.LiesR.len {w : World} {v : Value} {l : List Rg} (h : LiesR w v l) : l.length ≤ 1000 := by obtain ⟨_, _, _, h, _⟩ := h; exact h
theorem Ve.LiesR.step {w w' : World} {v : Value} {l : List Rg} (h : LiesR w v l) (hb : Below w.heap.size w w') : LiesR w' v l := by
  obtain ⟨ao, cap, e, h1, h2, h3⟩ := h
  refine ⟨ao, cap, e, h1, h2, fun b hb1 hne => ?_⟩
  obtain ⟨g, k, e1, hg, hc⟩ := h3 b hb1 hne
  refine ⟨g, k, e1, Nat.lt_of_lt_of_le hg hb.size, fun j p hp => ?_⟩
  obtain ⟨c0, c1, c2⟩ := hc j p hp
  exact ⟨(hb.cell (p := ⟨g, k + j * 3, none⟩) hg).trans c0, (hb.cell (p := ⟨g, k + j * 3 + 1, none⟩) hg).trans c1, (hb.cell (p := ⟨g, k + j * 3 + 2, none⟩) hg).trans c2⟩
set_option maxHeartbeats 3200000 in
theorem ranges_any (w : World) (v : Value) (l : List Rg) (h : LiesR w v l) :
    Calls Tryd.prog 21 #[v] w fun e w' => ∃ r, e = .returned r ∧ LiesR w' r l ∧ Below w.heap.size w w' := by
  obtain ⟨i0, hi45, hz0, hz1, hz2⟩ := Ve.info_parts Ve.Tryd.info45
  have H := Lib.hid h
  have hl := Ve.LiesR.len h
  obtain ⟨ao, cap, rfl⟩ : ∃ ao cap, v = .slice ao l.length cap := by obtain ⟨ao, cap, e, _⟩ := h; exact ⟨ao, cap, e⟩
  clear h
  go_enter Tryd.func21, Tryd.ntmps21
  go_wp2
  go_loopw [3, 4] (fun rv iv wr => ∃ i : Nat, iv = .int .i64 i ∧ i ≤ l.length ∧ rv = rv ∧ Hid (wr.ownsRow w.heap.size 70 3 rv (l.take i).length (Ve.cs3 (l.take i)) ∧ Below w.heap.size w wr)) (fun _ iv _ => l.length - (intOf iv).toNat)
  case atStart => exact ⟨0, rfl, Nat.zero_le _, rfl, Lib.hid ⟨World.ownsRow_nil _ _ _ _, Below.refl _ _⟩⟩
  case round =>
    obtain ⟨i, rfl, hi, _, hI⟩ := hrel
    obtain ⟨ra, rc, rfl⟩ := Ve.own_shape hI.out.1
    by_cases hlt : i < l.length
    · obtain ⟨p, hp⟩ : ∃ p, l[i]? = some p := ⟨_, List.getElem?_eq_getElem hlt⟩
      have htk := Ve.take_snoc' l i p hp
      have hcl : (l.take i).length ≤ 1000 := by rw [List.length_take]; omega
      have HN := Lib.hid htk
      obtain ⟨k, off, rfl, d0, d1, d2⟩ := H.out.at hI.out.2 hp
      have HP := Lib.hid hp
      obtain ⟨p1, p2, p3⟩ := p
      dsimp only at d0 d1 d2
      generalize l.take i = cs at *
      have hi0 : (0 : Int) ≤ (i : Int) := by omega
      have hi1 : (i : Int) < (l.length : Int) := by omega
      clear hp htk
      go_upto_region 5 with (fail)
      have BD := hI.out.2
      have OD := hI.out.1
      have BXc := Lib.hid (fun W' (hW : Below w.heap.size w W') => (show W'.cell? ⟨k, off + i * 3, none⟩ = some (.int .i64 p1) ∧ W'.cell? ⟨k, off + i * 3 + 1, none⟩ = some (.int .i64 p2) ∧ W'.cell? ⟨k, off + i * 3 + 2, none⟩ = some (.int .i64 p3) from by
        obtain ⟨k', off', e, d0, d1, d2⟩ := H.out.at hW HP.out
        injection e with e; injection e with e1 e2; subst e1 e2
        exact ⟨d0, d1, d2⟩))
      have BAl := Lib.hid ((BD.alloc BD.size (.cells #[.int .i64 p1, .int .i64 p2, .int .i64 p3] 70)).drew)
      have OAl := Lib.hid (show ((wr.alloc (.cells #[.int .i64 p1, .int .i64 p2, .int .i64 p3] 70)).drew).ownsRow w.heap.size 70 3 (.slice ra cs.length rc) cs.length (Ve.cs3 cs) from OD.alloc (.cells #[.int .i64 p1, .int .i64 p2, .int .i64 p3] 70))
      have hsa : w.heap.size ≤ ((wr.alloc (.cells #[.int .i64 p1, .int .i64 p2, .int .i64 p3] 70)).drew).heap.size := BAl.out.size
      have hlo : ∀ k, (Value.slice ra cs.length rc).ownBlock = some k → w.heap.size ≤ k := fun k hk => (OD.lt k hk).1
      have SR := Lib.hid (show Src Tryd.prog 3 56 (.slice (some ⟨wr.heap.size, 0, none⟩) 1 1) 1 (Ve.cs3 [(p1, p2, p3)]) ((wr.alloc (.cells #[.int .i64 p1, .int .i64 p2, .int .i64 p3] 70)).drew) from Ve.src_rg wr.drew (p1, p2, p3))
      have BDH := Lib.hid BD
      clear BD OD
      have KB := BAl
      have h63 : cs.length + 1 ≤ maxLen := by unfold maxLen; omega
      have hby : (cs.length + 1) * 24 ≤ 140737488355328 := by omega
      have h03 : 0 < 3 := by decide
      go_region_held_law (fun w' => w'.cell? ⟨k, off + i * 3, none⟩ = some (.int .i64 p1) ∧ w'.cell? ⟨k, off + i * 3 + 1, none⟩ = some (.int .i64 p2) ∧ w'.cell? ⟨k, off + i * 3 + 2, none⟩ = some (.int .i64 p3)) (first | exact BXc.out _ BDH.out | exact BXc.out _ BDH.out.drew | exact BXc.out _ BAl.out | exact BXc.out _ KB.out)
        (first
        | (refine step_append_src_own' rfl (.tmp 11) (.tmp 28) 56 56 rfl w.heap.size 70 i0 (.agg #[.int .i64 0, .int .i64 0, .int .i64 0]) 3 24 Ve.Tryd.u38 hi45 hz0 hz1 hz2 rfl h03 (.slice ra cs.length rc) cs.length (Ve.cs3 cs) rfl OAl.out _ 1 (Ve.cs3 [(p1, p2, p3)]) rfl SR.out h63 hby hsa ?_; intro v3 w3 hown hgr; have K := Lib.hid hown; have KB := Lib.hid (BAl.out.grown hgr BAl.out.size hlo); clear hown hgr; obtain ⟨a3, c3, rfl⟩ := Ve.own_shape K.out))
      go_wp2
      go_roundw
      case rel => exact ⟨i + 1, by go_num, by omega, trivial, Lib.hid ⟨by rw [HN.out, Ve.cs3_append, List.length_append]; exact K.out, KB.out⟩⟩
      case measure => simp [intOf]; omega
    · have FIN := Lib.hid (List.take_of_length_le (Nat.le_of_not_lt hlt))
      go_wp2
      go_returns
      have h1 := hI.out.1
      have h2 : LiesR wr (.slice ra (l.take i).length rc) l := by
        rw [FIN.out] at h1 ⊢
        exact own_liesR h1 hl
      exact ⟨_, rfl, h2, hI.out.2⟩
/-! ### Take -/
theorem take_lt {α : Type} {a : List α} {M : Nat} (x : α) (h : (a.take M).length < M) : (a ++ [x]).take M = a.take M ++ [x] := by
  rw [List.length_take] at h
  rw [List.take_of_length_le (by rw [List.length_append, List.length_singleton]; omega), List.take_of_length_le (by omega)]
theorem take_ge {α : Type} {a : List α} {M : Nat} (x : α) (h : ¬ (a.take M).length < M) : (a ++ [x]).take M = a.take M := by
  rw [List.length_take] at h
  rw [List.take_append_of_le_length (by omega)]
def partR (l : List O) (r : Rg) : List O := l.filter (inR r.1 r.2.1 r.2.2)
def takeR (l : List O) (rs : List Rg) (most : Int) : List O := (rs.flatMap (partR l)).take most.toNat
theorem takeR_flat (L : Nat → List O) (rs : List Rg) (most : Int) : takeR (flat L) rs most = takeF L rs most := rfl
structure TK (w wr : World) (bs : List Int) (v pv : Value) (cs : List O) : Prop where
  bel : Below w.heap.size w wr
  src : RBx wr w.heap.size bs v
  row : wr.ownsRow (w.heap.size + 1) 40 9 pv cs.length (cs9 cs)
theorem TK.step {w wr w' : World} {bs : List Int} {v pv : Value} {cs : List O} (h : TK w wr bs v pv cs) (hb : Below wr.heap.size wr w') : TK w w' bs v pv cs :=
  ⟨h.bel.trans (hb.mono h.bel.size), h.src.step hb, own_keep h.row hb⟩
set_option maxHeartbeats 1600000 in
theorem TK.push {w W : World} {bs : List Int} {v pv : Value} {cs : List O} (h : TK w W bs v pv cs) (hl : cs.length ≤ 100000) (k : Nat) (x : O) (hk : W.heap[k]? = some (.cells (oCells x) 40 (0, 0))) :
    ∃ a c W1, (Builtin.append_ #[34, 34] 34 #[pv, .slice (some ⟨k, 0, none⟩) 1 1]).run Tryd.prog W = .ok (.slice a (cs.length + 1) c) W1 ∧ TK w W1 bs v (.slice a (cs.length + 1) c) (cs ++ [x]) := by
  obtain ⟨i0, hi0, hz0, hz1, hz2⟩ := Ve.info_parts info25
  have hgl := lt_of_block h.src
  obtain ⟨v', W1, hr, ho, hgr, hsp⟩ := Wi.run_append_src_own (P := Tryd.prog) W (w.heap.size + 1) 34 34 34 40 i0 (oV O0) 9 80 Tryd.u27 hi0 hz0 hz1 hz2 rfl (by decide) pv cs.length (cs9 cs) h.row (.slice (some ⟨k, 0, none⟩) 1 1) 1 (cs9 [x]) (one_olies hk).src (by unfold maxLen; omega) (by omega) (by omega)
  obtain ⟨a, c, rfl⟩ := Ve.own_shape ho
  have hf : Far (fun j => pv.ownBlock = some j) W W1 := Far.of_grown hgr (fun k e => e)
  have hlt := own_lt h.row
  refine ⟨a, c, W1, hr, h.bel.trans (hf.below h.bel.size (fun j q => by have := (hlt j q).1; omega)), (hf.block _ hgl (fun q => by have := (hlt _ q).1; omega)).trans h.src, ?_⟩
  rw [List.length_append, cs9_append]
  exact ho
theorem bs34 (W : World) (x : O) : (Instr.buildSlice 34 1 #[(0, oV x)]).run Tryd.prog W = .ok (.slice (some ⟨W.heap.size, 0, none⟩) 1 1) (W.alloc (.cells (oCells x) 40)) := bsO W x
theorem partR_len (l : List O) (r : Rg) : (partR l r).length ≤ l.length := List.length_filter_le _ _
theorem ix53 {k o n cap i : Nat} (h : i < n) (hn : n ≤ 9223372036854775807) (W : World) : (Instr.indexAt 53 (.slice (some ⟨k, o, none⟩) n cap) (.int .i64 (i : Int))).run Tryd.prog W = .ok (pvo k (o + i * 3)) W := by
  have h0 : (0 : Int) ≤ (i : Int) := by omega
  have h1 : (i : Int) < (n : Int) := by omega
  go_simp
theorem leqb_ (a b : Int) (h : a ≤ b) : decide (a ≤ b) = true := decide_eq_true h
set_option maxHeartbeats 6400000 in
theorem rtake_any (w : World) (bs : List Int) (hb : bs.length = 64) (v : Value) (l : List O) (hv : OLies w v l) (hl : l.length ≤ 2600) (wv : Value) (rs : List Rg) (hw : LiesR w wv rs) (hr : rs.length ≤ 30) (most : Int) (hmost : most ≤ 9223372036854775807) :
    Calls Tryd.prog 22 #[.agg (rva bs v), wv, .int .i64 most] w fun e w' => ∃ r, e = .returned r ∧ RowO w w' r (takeR l rs most) := by
  have X1 := vstep w (.cells (rva bs v) 36)
  have R1 : RBx (w.alloc (.cells (rva bs v) 36)) w.heap.size bs v := heap_alloc_new w _
  have T0 := Lib.hid (show TK w (w.alloc (.cells (rva bs v) 36)) bs v (.slice none 0 0) [] from ⟨X1, R1, World.ownsRow_nil _ _ _ _⟩)
  have V := Lib.hid (fun W (hb : Below w.heap.size w W) => OLies.step hv hb)
  have HW := Lib.hid hw
  have HB := Lib.hid hb
  have hlen := hv.len
  obtain ⟨ao, cap, rfl⟩ := hv.shape
  obtain ⟨wo, wc, rfl⟩ : ∃ ao cap, wv = .slice ao rs.length cap := by obtain ⟨ao, cap, e, _⟩ := hw; exact ⟨ao, cap, e⟩
  obtain ⟨M, hM⟩ : ∃ M : Nat, most.toNat = M := ⟨_, rfl⟩
  have HM := Lib.hid hM
  have BX := Lib.hid (fun (W : World) (o : O) => box40 W o)
  have BS := Lib.hid bs34
  clear R1 X1 hb hv hw hM
  obtain ⟨A, hA⟩ : ∃ A, rva bs (.slice ao l.length cap) = A := ⟨_, rfl⟩
  rw [hA] at T0
  rw [hA]
  clear hA
  obtain ⟨w0, hw0⟩ : ∃ z, w.alloc (.cells A 36) = z := ⟨_, rfl⟩
  rw [hw0] at T0
  go_enter Tryd.func22, Tryd.ntmps22
  go_wp2_with fail
  clear hw0
  go_loopw [7, 8] (fun rv iv wr => ∃ (i : Nat) (cs : List O), iv = .int .i64 i ∧ i ≤ rs.length ∧ rv = rv ∧ cs.length ≤ i * 2600 ∧ Hid (cs = ((rs.take i).flatMap (partR l)).take M) ∧ Hid (TK w wr bs (.slice ao l.length cap) rv cs)) (fun _ iv _ => rs.length - (intOf iv).toNat)
  case atStart => exact ⟨0, [], rfl, Nat.zero_le _, rfl, Nat.zero_le _, Lib.hid (by simp), T0⟩
  case round =>
    obtain ⟨i, cs, rfl, hi, _, hcl, HC, HT⟩ := hrel
    by_cases hlt : i < rs.length
    · obtain ⟨p, hp⟩ : ∃ p, rs[i]? = some p := ⟨_, List.getElem?_eq_getElem hlt⟩
      have htk := Ve.take_snoc' rs i p hp
      have HTK := Lib.hid htk
      have HP := Lib.hid hp
      have hi0 : (0 : Int) ≤ (i : Int) := by omega
      have hi1 : (i : Int) < (rs.length : Int) := by omega
      obtain ⟨wk, wf, rfl, _, _, _⟩ := HW.out.at HT.out.bel hp
      have RD := Lib.hid (fun W (hb : Below w.heap.size w W) => (show W.cell? ⟨wk, wf + i * 3, none⟩ = some (.int .i64 p.1) ∧ W.cell? ⟨wk, wf + i * 3 + 1, none⟩ = some (.int .i64 p.2.1) ∧ W.cell? ⟨wk, wf + i * 3 + 2, none⟩ = some (.int .i64 p.2.2) from by
        obtain ⟨k', off', e, d0, d1, d2⟩ := HW.out.at hb HP.out
        injection e with e; injection e with e1 e2; subst e1 e2
        exact ⟨d0, d1, d2⟩))
      obtain ⟨p1, p2, p3⟩ := p
      dsimp only at RD
      clear hp htk
      have T1 := Lib.hid HT.out
      go_wp2
      go_loopw [7, 9] (fun rv kv wx => ∃ (k : Nat) (cs : List O), kv = .int .i64 k ∧ k ≤ l.length ∧ rv = rv ∧ cs.length ≤ i * 2600 + k ∧ Hid (cs = ((rs.take i).flatMap (partR l) ++ (l.take k).filter (inR p1 p2 p3)).take M) ∧ Hid (TK w wx bs (.slice ao l.length cap) rv cs)) (fun _ kv _ => l.length - (intOf kv).toNat)
      case atStart => exact ⟨0, cs, rfl, Nat.zero_le _, rfl, by omega, Lib.hid (by rw [List.take_zero, List.filter_nil, List.append_nil]; exact HC.out), HT⟩
      case round =>
        obtain ⟨k, ds, rfl, hk, _, hdl, HD, HX⟩ := hrel
        obtain ⟨pa, pc, rfl⟩ := Ve.own_shape HX.out.row
        have hcv := HX.out.src.cv HB.out
        by_cases hltk : k < l.length
        · obtain ⟨g, off, x, rfl, hx, hg, hcx⟩ := (V.out wr HX.out.bel).atK hltk
          have htk2 := Ve.take_snoc' l k x hx
          have HF := Lib.hid (show (l.take (k + 1)).filter (inR p1 p2 p3) = (l.take k).filter (inR p1 p2 p3) ++ (if inR p1 p2 p3 x = true then [x] else []) by
            rw [htk2, List.filter_append]
            simp only [List.filter_cons, List.filter_nil])
          have LX := Lib.hid (ldO hcx)
          obtain ⟨a4, w2, s4, b4, r4⟩ := BX.out wr x
          have A4 := Lib.hid a4
          have S4 := Lib.hid s4
          have R4 := Lib.hid r4
          have T2 := Lib.hid (HX.out.step b4)
          obtain ⟨c0, c1, c2⟩ := box3 r4
          obtain ⟨wd, hwd⟩ : ∃ z, w2.drew = z := ⟨_, rfl⟩
          have HWD := Lib.hid hwd
          have BD : Below w2.heap.size w2 wd := by rw [← hwd]; exact (Below.refl _ _).drew
          have TD := Lib.hid (T2.out.step BD)
          have LB := Lib.hid (ldBox ((BD.block _ (lt_of_block r4)).trans r4))
          obtain ⟨g4, hg4⟩ : ∃ z, wr.heap.size = z := ⟨_, rfl⟩
          rw [hg4] at A4 S4 R4 LB c0 c1 c2
          have k0 : (0 : Int) ≤ (k : Int) := by omega
          have k1 : (k : Int) < (l.length : Int) := by omega
          have BOX := Lib.hid (BS.out wd x)
          have B5 := vstep wd (.cells (oCells x) 40)
          have N5 := heap_alloc_new wd (.cells (oCells x) 40)
          obtain ⟨w3, hw3⟩ : ∃ z, wd.alloc (.cells (oCells x) 40) = z := ⟨_, rfl⟩
          rw [hw3] at BOX B5 N5
          obtain ⟨g5, hg5⟩ : ∃ z, wd.heap.size = z := ⟨_, rfl⟩
          rw [hg5] at BOX N5
          obtain ⟨a6, c6, w6, h6, t6⟩ := (TD.out.step B5).push (by omega) g5 x N5
          have H6 := Lib.hid h6
          have T6 := Lib.hid t6
          obtain ⟨xr, hxr⟩ : ∃ z, x.r = z := ⟨_, rfl⟩
          obtain ⟨xq, hxq⟩ : ∃ z, x.q = z := ⟨_, rfl⟩
          have HIN := Lib.hid (show inR p1 p2 p3 x = (decide (xr = p1) && (decide (p2 ≤ xq) && decide (xq ≤ p3))) by rw [← hxr, ← hxq]; rfl)
          rw [hxr] at c1
          rw [hxq] at c2
          have CX := Lib.hid (fun W (hb : Below w2.heap.size w2 W) => And.intro (ldI ((hb.cell (p := ⟨g4, 1, none⟩) (lt_of_block R4.out)).trans c1)) (ldI ((hb.cell (p := ⟨g4, 2, none⟩) (lt_of_block R4.out)).trans c2)))
          have CR := Lib.hid (fun W (hb : Below w2.heap.size w2 W) => (show (Instr.loadAt 3 (pvo wk (wf + i * 3))).run Tryd.prog W = .ok (.int .i64 p1) W ∧ (Instr.loadAt 3 (pvo wk (wf + i * 3 + 1))).run Tryd.prog W = .ok (.int .i64 p2) W ∧ (Instr.loadAt 3 (pvo wk (wf + i * 3 + 2))).run Tryd.prog W = .ok (.int .i64 p3) W from by
            obtain ⟨r0, r1, r2⟩ := RD.out W (T2.out.bel.trans (hb.mono T2.out.bel.size))
            exact ⟨ldI r0, ldI r1, ldI r2⟩))
          have IXR := Lib.hid (fun W => ix53 (k := wk) (o := wf) (cap := wc) hlt (by omega) W)
          obtain ⟨XV, hXV⟩ : ∃ XV, oV x = XV := ⟨_, rfl⟩
          rw [hXV] at LX S4 LB BOX
          obtain ⟨n, hn⟩ : ∃ n, ds.length = n := ⟨_, rfl⟩
          have HN := Lib.hid hn
          have HMN := Lib.hid (show (decide ((n : Int) < most)) = decide (n < M) by
            have := HM.out
            by_cases h : n < M
            · rw [decide_eq_true h, decide_eq_true (by omega)]
            · rw [decide_eq_false h, decide_eq_false (by omega)])
          rw [hn] at H6 hdl T2 T6 TD
          clear htk2 hcx a4 s4 r4 b4 hg4 h6 t6 hg5 hw3 N5 B5 hxr hxq hXV hx hg c0 c1 c2 hwd BD
          rw [hn]
          have D0 : (n : Int) < most ∨ ¬ (n : Int) < most := Classical.em _
          rcases D0 with q0 | q0
          · by_cases q1 : xr = p1
            · have e1 := beqb_ xr p1 q1
              by_cases q2 : p2 ≤ xq
              · by_cases q3 : xq ≤ p3
                · have E := Lib.hid (show ds ++ [x] = ((rs.take i).flatMap (partR l) ++ (l.take (k + 1)).filter (inR p1 p2 p3)).take M by
                    rw [HF.out, if_pos (by rw [HIN.out, decide_eq_true q1, decide_eq_true q2, decide_eq_true q3]; rfl), ← List.append_assoc, take_lt x (by rw [← HD.out, HN.out]; exact of_decide_eq_true (HMN.out.symm.trans (decide_eq_true q0))), ← HD.out])
                  clear HIN HF HMN HD
                  go_upto_region 9 with (first | (refine wpList_ld rfl (.tmp 27) 40 rfl (pvo g (off + k * 9)) XV rfl LX.out ?_; simp only [Act.put, List.setIfInBounds_toArray, List.set_cons_zero, List.set_cons_succ]) | (refine Ve.wpList_alloc_arr rfl 40 rfl _ _ A4.out ?_; simp only [Act.put, List.setIfInBounds_toArray, List.set_cons_zero, List.set_cons_succ]) | (refine Ve.wpList_store_arr rfl (.tmp 10) (.tmp 28) 40 rfl (pvo g4 0) XV rfl rfl _ S4.out ?_; simp only [Act.put, List.setIfInBounds_toArray, List.set_cons_zero, List.set_cons_succ]))
                  refine wp_region_held_drew (S := fun w' => Below w2.heap.size w2 w') (by kernel_rfl) (Below.refl _ _).drew (fun hHeld => ?_)
                  have BV := Lib.hid (show Below w2.heap.size w2 w2.drew from (Below.refl _ _).drew)
                  clear hHeld
                  refine take_at (i := 0) 29 ?_ rfl rfl (by kernel_rfl) (by kernel_rfl) (by kernel_rfl) (fun _ _ _ h => h) (.inl ⟨rfl, ?_⟩) BV.out ?_
                  rotate_left 1
                  · intro w hSw; go_simp; try with_reducible rfl
                  simp only [Act.put, List.setIfInBounds_toArray, List.set_cons_zero, List.set_cons_succ]
                  refine take_at (i := 1) 30 ?_ rfl rfl (by kernel_rfl) (by kernel_rfl) (by kernel_rfl) (fun _ _ _ h => h) (.inl ⟨rfl, ?_⟩) BV.out ?_
                  rotate_left 1
                  · intro w hSw; go_simp; try with_reducible rfl
                  simp only [Act.put, List.setIfInBounds_toArray, List.set_cons_zero, List.set_cons_succ]
                  refine take_at (i := 2) 31 ?_ rfl rfl (by kernel_rfl) (by kernel_rfl) (by kernel_rfl) (fun _ _ _ h => h) (.inl ⟨rfl, ?_⟩) BV.out ?_
                  rotate_left 1
                  · intro w hSw; go_simp; try with_reducible rfl
                  simp only [Act.put, List.setIfInBounds_toArray, List.set_cons_zero, List.set_cons_succ]
                  refine take_at (i := 3) 32 ?_ rfl rfl (by kernel_rfl) (by kernel_rfl) (by kernel_rfl) (fun _ _ _ h => h) (.inl ⟨rfl, ?_⟩) BV.out ?_
                  rotate_left 1
                  · intro w hSw; go_simp; try with_reducible rfl
                  simp only [Act.put, List.setIfInBounds_toArray, List.set_cons_zero, List.set_cons_succ]
                  refine take_at (i := 4) 33 ?_ rfl rfl (by kernel_rfl) (by kernel_rfl) (by kernel_rfl) (fun _ _ _ h => h) (.inl ⟨rfl, ?_⟩) BV.out ?_
                  rotate_left 1
                  · intro w hSw; go_simp; try with_reducible rfl
                  simp only [Act.put, List.setIfInBounds_toArray, List.set_cons_zero, List.set_cons_succ]
                  refine take_at (i := 5) 34 ?_ rfl rfl (by kernel_rfl) (by kernel_rfl) (by kernel_rfl) (fun _ _ _ h => h) (.inl ⟨rfl, ?_⟩) BV.out ?_
                  rotate_left 1
                  · intro w hSw; go_simp; try with_reducible rfl
                  simp only [Act.put, List.setIfInBounds_toArray, List.set_cons_zero, List.set_cons_succ]
                  refine take_at (i := 6) 35 ?_ rfl rfl (by kernel_rfl) (by kernel_rfl) (by kernel_rfl) (fun _ _ _ h => h) (.inl ⟨rfl, ?_⟩) BV.out ?_
                  rotate_left 1
                  · intro w hSw; go_simp; try with_reducible rfl
                  simp only [Act.put, List.setIfInBounds_toArray, List.set_cons_zero, List.set_cons_succ]
                  refine take_at (i := 7) 36 (.int .i64 xr) rfl rfl (by kernel_rfl) (by kernel_rfl) (by kernel_rfl) (fun _ _ _ h => h) (yields_ld (.tmp 35) 3 (pvo g4 1) _ (fun W h => (CX.out W h).1) rfl rfl rfl) BV.out ?_
                  simp only [Act.put, List.setIfInBounds_toArray, List.set_cons_zero, List.set_cons_succ]
                  refine take_at (i := 8) 37 ?_ rfl rfl (by kernel_rfl) (by kernel_rfl) (by kernel_rfl) (fun _ _ _ h => h) (.inl ⟨rfl, ?_⟩) BV.out ?_
                  rotate_left 1
                  · intro w hSw; go_simp; try with_reducible rfl
                  simp only [Act.put, List.setIfInBounds_toArray, List.set_cons_zero, List.set_cons_succ]
                  refine take_at (i := 9) 38 ?_ rfl rfl (by kernel_rfl) (by kernel_rfl) (by kernel_rfl) (fun _ _ _ h => h) (.inl ⟨rfl, ?_⟩) BV.out ?_
                  rotate_left 1
                  · intro w hSw; go_simp; try with_reducible rfl
                  simp only [Act.put, List.setIfInBounds_toArray, List.set_cons_zero, List.set_cons_succ]
                  refine take_at (i := 10) 39 (pvo wk (wf + i * 3)) rfl rfl (by kernel_rfl) (by kernel_rfl) (by kernel_rfl) (fun _ _ _ h => h) (yields_ix (.tmp 37) (.tmp 38) 53 (.slice (some ⟨wk, wf, none⟩) rs.length wc) (.int .i64 (i : Int)) _ (fun W => IXR.out W) rfl rfl rfl rfl) BV.out ?_
                  simp only [Act.put, List.setIfInBounds_toArray, List.set_cons_zero, List.set_cons_succ]
                  refine take_at (i := 11) 40 ?_ rfl rfl (by kernel_rfl) (by kernel_rfl) (by kernel_rfl) (fun _ _ _ h => h) (.inl ⟨rfl, ?_⟩) BV.out ?_
                  rotate_left 1
                  · intro w hSw; go_simp; try with_reducible rfl
                  simp only [Act.put, List.setIfInBounds_toArray, List.set_cons_zero, List.set_cons_succ]
                  refine take_at (i := 12) 41 (.int .i64 p1) rfl rfl (by kernel_rfl) (by kernel_rfl) (by kernel_rfl) (fun _ _ _ h => h) (yields_ld (.tmp 40) 3 (pvo wk (wf + i * 3)) _ (fun W h => (CR.out W h).1) rfl rfl rfl) BV.out ?_
                  simp only [Act.put, List.setIfInBounds_toArray, List.set_cons_zero, List.set_cons_succ]
                  refine take_at (i := 13) 42 ?_ rfl rfl (by kernel_rfl) (by kernel_rfl) (by kernel_rfl) (fun _ _ _ h => h) (.inl ⟨rfl, ?_⟩) BV.out ?_
                  rotate_left 1
                  · intro w hSw; go_simp; try with_reducible rfl
                  simp only [Act.put, List.setIfInBounds_toArray, List.set_cons_zero, List.set_cons_succ]
                  refine take_at (i := 14) 43 ?_ rfl rfl (by kernel_rfl) (by kernel_rfl) (by kernel_rfl) (fun _ _ _ h => h) (.inl ⟨rfl, ?_⟩) BV.out ?_
                  rotate_left 1
                  · intro w hSw; go_simp; try with_reducible rfl
                  simp only [Act.put, List.setIfInBounds_toArray, List.set_cons_zero, List.set_cons_succ]
                  refine take_at (i := 15) 44 ?_ rfl rfl (by kernel_rfl) (by kernel_rfl) (by kernel_rfl) (fun _ _ _ h => h) (.inl ⟨rfl, ?_⟩) BV.out ?_
                  rotate_left 1
                  · intro w hSw; go_simp; try with_reducible rfl
                  simp only [Act.put, List.setIfInBounds_toArray, List.set_cons_zero, List.set_cons_succ]
                  refine take_at (i := 16) 45 ?_ rfl rfl (by kernel_rfl) (by kernel_rfl) (by kernel_rfl) (fun _ _ _ h => h) (.inl ⟨rfl, ?_⟩) BV.out ?_
                  rotate_left 1
                  · intro w hSw; go_simp; try with_reducible rfl
                  simp only [Act.put, List.setIfInBounds_toArray, List.set_cons_zero, List.set_cons_succ]
                  refine take_at (i := 17) 46 (.int .i64 xq) rfl rfl (by kernel_rfl) (by kernel_rfl) (by kernel_rfl) (fun _ _ _ h => h) (yields_ld (.tmp 45) 3 (pvo g4 2) _ (fun W h => (CX.out W h).2) rfl rfl rfl) BV.out ?_
                  simp only [Act.put, List.setIfInBounds_toArray, List.set_cons_zero, List.set_cons_succ]
                  refine take_at (i := 18) 47 ?_ rfl rfl (by kernel_rfl) (by kernel_rfl) (by kernel_rfl) (fun _ _ _ h => h) (.inl ⟨rfl, ?_⟩) BV.out ?_
                  rotate_left 1
                  · intro w hSw; go_simp; try with_reducible rfl
                  simp only [Act.put, List.setIfInBounds_toArray, List.set_cons_zero, List.set_cons_succ]
                  refine take_at (i := 19) 48 ?_ rfl rfl (by kernel_rfl) (by kernel_rfl) (by kernel_rfl) (fun _ _ _ h => h) (.inl ⟨rfl, ?_⟩) BV.out ?_
                  rotate_left 1
                  · intro w hSw; go_simp; try with_reducible rfl
                  simp only [Act.put, List.setIfInBounds_toArray, List.set_cons_zero, List.set_cons_succ]
                  refine take_at (i := 20) 49 (pvo wk (wf + i * 3)) rfl rfl (by kernel_rfl) (by kernel_rfl) (by kernel_rfl) (fun _ _ _ h => h) (yields_ix (.tmp 47) (.tmp 48) 53 (.slice (some ⟨wk, wf, none⟩) rs.length wc) (.int .i64 (i : Int)) _ (fun W => IXR.out W) rfl rfl rfl rfl) BV.out ?_
                  simp only [Act.put, List.setIfInBounds_toArray, List.set_cons_zero, List.set_cons_succ]
                  refine take_at (i := 21) 50 ?_ rfl rfl (by kernel_rfl) (by kernel_rfl) (by kernel_rfl) (fun _ _ _ h => h) (.inl ⟨rfl, ?_⟩) BV.out ?_
                  rotate_left 1
                  · intro w hSw; go_simp; try with_reducible rfl
                  simp only [Act.put, List.setIfInBounds_toArray, List.set_cons_zero, List.set_cons_succ]
                  refine take_at (i := 22) 51 (.int .i64 p2) rfl rfl (by kernel_rfl) (by kernel_rfl) (by kernel_rfl) (fun _ _ _ h => h) (yields_ld (.tmp 50) 3 (pvo wk (wf + i * 3 + 1)) _ (fun W h => (CR.out W h).2.1) rfl rfl rfl) BV.out ?_
                  simp only [Act.put, List.setIfInBounds_toArray, List.set_cons_zero, List.set_cons_succ]
                  refine take_at (i := 23) 52 ?_ rfl rfl (by kernel_rfl) (by kernel_rfl) (by kernel_rfl) (fun _ _ _ h => h) (.inl ⟨rfl, ?_⟩) BV.out ?_
                  rotate_left 1
                  · intro w hSw; go_simp; try with_reducible rfl
                  simp only [Act.put, List.setIfInBounds_toArray, List.set_cons_zero, List.set_cons_succ]
                  refine take_at (i := 24) 53 ?_ rfl rfl (by kernel_rfl) (by kernel_rfl) (by kernel_rfl) (fun _ _ _ h => h) (.inl ⟨rfl, ?_⟩) BV.out ?_
                  rotate_left 1
                  · intro w hSw; go_simp; try with_reducible rfl
                  simp only [Act.put, List.setIfInBounds_toArray, List.set_cons_zero, List.set_cons_succ]
                  refine take_at (i := 25) 54 ?_ rfl rfl (by kernel_rfl) (by kernel_rfl) (by kernel_rfl) (fun _ _ _ h => h) (.inl ⟨rfl, ?_⟩) BV.out ?_
                  rotate_left 1
                  · intro w hSw; go_simp; try with_reducible rfl
                  simp only [Act.put, List.setIfInBounds_toArray, List.set_cons_zero, List.set_cons_succ]
                  refine take_at (i := 26) 55 ?_ rfl rfl (by kernel_rfl) (by kernel_rfl) (by kernel_rfl) (fun _ _ _ h => h) (.inl ⟨rfl, ?_⟩) BV.out ?_
                  rotate_left 1
                  · intro w hSw; go_simp; try with_reducible rfl
                  simp only [Act.put, List.setIfInBounds_toArray, List.set_cons_zero, List.set_cons_succ]
                  refine take_at (i := 27) 56 (.int .i64 xq) rfl rfl (by kernel_rfl) (by kernel_rfl) (by kernel_rfl) (fun _ _ _ h => h) (yields_ld (.tmp 55) 3 (pvo g4 2) _ (fun W h => (CX.out W h).2) rfl rfl rfl) BV.out ?_
                  simp only [Act.put, List.setIfInBounds_toArray, List.set_cons_zero, List.set_cons_succ]
                  refine take_at (i := 28) 57 ?_ rfl rfl (by kernel_rfl) (by kernel_rfl) (by kernel_rfl) (fun _ _ _ h => h) (.inl ⟨rfl, ?_⟩) BV.out ?_
                  rotate_left 1
                  · intro w hSw; go_simp; try with_reducible rfl
                  simp only [Act.put, List.setIfInBounds_toArray, List.set_cons_zero, List.set_cons_succ]
                  refine take_at (i := 29) 58 ?_ rfl rfl (by kernel_rfl) (by kernel_rfl) (by kernel_rfl) (fun _ _ _ h => h) (.inl ⟨rfl, ?_⟩) BV.out ?_
                  rotate_left 1
                  · intro w hSw; go_simp; try with_reducible rfl
                  simp only [Act.put, List.setIfInBounds_toArray, List.set_cons_zero, List.set_cons_succ]
                  refine take_at (i := 30) 59 (pvo wk (wf + i * 3)) rfl rfl (by kernel_rfl) (by kernel_rfl) (by kernel_rfl) (fun _ _ _ h => h) (yields_ix (.tmp 57) (.tmp 58) 53 (.slice (some ⟨wk, wf, none⟩) rs.length wc) (.int .i64 (i : Int)) _ (fun W => IXR.out W) rfl rfl rfl rfl) BV.out ?_
                  simp only [Act.put, List.setIfInBounds_toArray, List.set_cons_zero, List.set_cons_succ]
                  refine take_at (i := 31) 60 ?_ rfl rfl (by kernel_rfl) (by kernel_rfl) (by kernel_rfl) (fun _ _ _ h => h) (.inl ⟨rfl, ?_⟩) BV.out ?_
                  rotate_left 1
                  · intro w hSw; go_simp; try with_reducible rfl
                  simp only [Act.put, List.setIfInBounds_toArray, List.set_cons_zero, List.set_cons_succ]
                  refine take_at (i := 32) 61 (.int .i64 p3) rfl rfl (by kernel_rfl) (by kernel_rfl) (by kernel_rfl) (fun _ _ _ h => h) (yields_ld (.tmp 60) 3 (pvo wk (wf + i * 3 + 2)) _ (fun W h => (CR.out W h).2.2) rfl rfl rfl) BV.out ?_
                  simp only [Act.put, List.setIfInBounds_toArray, List.set_cons_zero, List.set_cons_succ]
                  refine take_at (i := 33) 62 ?_ rfl rfl (by kernel_rfl) (by kernel_rfl) (by kernel_rfl) (fun _ _ _ h => h) (.inl ⟨rfl, ?_⟩) BV.out ?_
                  rotate_left 1
                  · intro w hSw; go_simp; try with_reducible rfl
                  simp only [Act.put, List.setIfInBounds_toArray, List.set_cons_zero, List.set_cons_succ]
                  refine take_at (i := 34) 63 ?_ rfl rfl (by kernel_rfl) (by kernel_rfl) (by kernel_rfl) (fun _ _ _ h => h) (.inl ⟨rfl, ?_⟩) BV.out ?_
                  rotate_left 1
                  · intro w hSw; go_simp; try with_reducible rfl
                  simp only [Act.put, List.setIfInBounds_toArray, List.set_cons_zero, List.set_cons_succ]
                  refine wpAnyH_done (by kernel_rfl) ?_ _
                  rw [HWD.out]
                  go_wp2_with (first | (refine wpList_ld rfl (.tmp 10) 40 rfl (pvo g4 0) XV rfl LB.out ?_; simp only [Act.put, List.setIfInBounds_toArray, List.set_cons_zero, List.set_cons_succ]) | (refine wpList_bs rfl 34 (.tmp 65) rfl XV rfl (.slice (some ⟨g5, 0, none⟩) 1 1) _ BOX.out ?_; simp only [Act.put, List.setIfInBounds_toArray, List.set_cons_zero, List.set_cons_succ]) | (at_builtin; refine Lib.wpList_append_run _ rfl (.tmp 64) (.tmp 66) 34 34 rfl (.slice pa n pc) (.slice (some ⟨g5, 0, none⟩) 1 1) rfl rfl _ _ H6.out ?_; simp only [Act.put, List.setIfInBounds_toArray, List.set_cons_zero, List.set_cons_succ]))
                  go_roundw
                  case rel => exact ⟨k + 1, ds ++ [x], by go_num, by omega, by first | trivial | rfl, by rw [List.length_append, HN.out]; simp; omega, E, T6⟩
                  case measure => simp [intOf]; omega
                · have E := Lib.hid (show ds = ((rs.take i).flatMap (partR l) ++ (l.take (k + 1)).filter (inR p1 p2 p3)).take M by
                    rw [HF.out, if_neg (by rw [HIN.out]; simp [q3]), List.append_nil]; exact HD.out)
                  clear HIN HF HMN HD H6 T6 BOX
                  go_upto_region 9 with (first | (refine wpList_ld rfl (.tmp 27) 40 rfl (pvo g (off + k * 9)) XV rfl LX.out ?_; simp only [Act.put, List.setIfInBounds_toArray, List.set_cons_zero, List.set_cons_succ]) | (refine Ve.wpList_alloc_arr rfl 40 rfl _ _ A4.out ?_; simp only [Act.put, List.setIfInBounds_toArray, List.set_cons_zero, List.set_cons_succ]) | (refine Ve.wpList_store_arr rfl (.tmp 10) (.tmp 28) 40 rfl (pvo g4 0) XV rfl rfl _ S4.out ?_; simp only [Act.put, List.setIfInBounds_toArray, List.set_cons_zero, List.set_cons_succ]))
                  refine wp_region_held_drew (S := fun w' => Below w2.heap.size w2 w') (by kernel_rfl) (Below.refl _ _).drew (fun hHeld => ?_)
                  have BV := Lib.hid (show Below w2.heap.size w2 w2.drew from (Below.refl _ _).drew)
                  clear hHeld
                  refine take_at (i := 0) 29 ?_ rfl rfl (by kernel_rfl) (by kernel_rfl) (by kernel_rfl) (fun _ _ _ h => h) (.inl ⟨rfl, ?_⟩) BV.out ?_
                  rotate_left 1
                  · intro w hSw; go_simp; try with_reducible rfl
                  simp only [Act.put, List.setIfInBounds_toArray, List.set_cons_zero, List.set_cons_succ]
                  refine take_at (i := 1) 30 ?_ rfl rfl (by kernel_rfl) (by kernel_rfl) (by kernel_rfl) (fun _ _ _ h => h) (.inl ⟨rfl, ?_⟩) BV.out ?_
                  rotate_left 1
                  · intro w hSw; go_simp; try with_reducible rfl
                  simp only [Act.put, List.setIfInBounds_toArray, List.set_cons_zero, List.set_cons_succ]
                  refine take_at (i := 2) 31 ?_ rfl rfl (by kernel_rfl) (by kernel_rfl) (by kernel_rfl) (fun _ _ _ h => h) (.inl ⟨rfl, ?_⟩) BV.out ?_
                  rotate_left 1
                  · intro w hSw; go_simp; try with_reducible rfl
                  simp only [Act.put, List.setIfInBounds_toArray, List.set_cons_zero, List.set_cons_succ]
                  refine take_at (i := 3) 32 ?_ rfl rfl (by kernel_rfl) (by kernel_rfl) (by kernel_rfl) (fun _ _ _ h => h) (.inl ⟨rfl, ?_⟩) BV.out ?_
                  rotate_left 1
                  · intro w hSw; go_simp; try with_reducible rfl
                  simp only [Act.put, List.setIfInBounds_toArray, List.set_cons_zero, List.set_cons_succ]
                  refine take_at (i := 4) 33 ?_ rfl rfl (by kernel_rfl) (by kernel_rfl) (by kernel_rfl) (fun _ _ _ h => h) (.inl ⟨rfl, ?_⟩) BV.out ?_
                  rotate_left 1
                  · intro w hSw; go_simp; try with_reducible rfl
                  simp only [Act.put, List.setIfInBounds_toArray, List.set_cons_zero, List.set_cons_succ]
                  refine take_at (i := 5) 34 ?_ rfl rfl (by kernel_rfl) (by kernel_rfl) (by kernel_rfl) (fun _ _ _ h => h) (.inl ⟨rfl, ?_⟩) BV.out ?_
                  rotate_left 1
                  · intro w hSw; go_simp; try with_reducible rfl
                  simp only [Act.put, List.setIfInBounds_toArray, List.set_cons_zero, List.set_cons_succ]
                  refine take_at (i := 6) 35 ?_ rfl rfl (by kernel_rfl) (by kernel_rfl) (by kernel_rfl) (fun _ _ _ h => h) (.inl ⟨rfl, ?_⟩) BV.out ?_
                  rotate_left 1
                  · intro w hSw; go_simp; try with_reducible rfl
                  simp only [Act.put, List.setIfInBounds_toArray, List.set_cons_zero, List.set_cons_succ]
                  refine take_at (i := 7) 36 (.int .i64 xr) rfl rfl (by kernel_rfl) (by kernel_rfl) (by kernel_rfl) (fun _ _ _ h => h) (yields_ld (.tmp 35) 3 (pvo g4 1) _ (fun W h => (CX.out W h).1) rfl rfl rfl) BV.out ?_
                  simp only [Act.put, List.setIfInBounds_toArray, List.set_cons_zero, List.set_cons_succ]
                  refine take_at (i := 8) 37 ?_ rfl rfl (by kernel_rfl) (by kernel_rfl) (by kernel_rfl) (fun _ _ _ h => h) (.inl ⟨rfl, ?_⟩) BV.out ?_
                  rotate_left 1
                  · intro w hSw; go_simp; try with_reducible rfl
                  simp only [Act.put, List.setIfInBounds_toArray, List.set_cons_zero, List.set_cons_succ]
                  refine take_at (i := 9) 38 ?_ rfl rfl (by kernel_rfl) (by kernel_rfl) (by kernel_rfl) (fun _ _ _ h => h) (.inl ⟨rfl, ?_⟩) BV.out ?_
                  rotate_left 1
                  · intro w hSw; go_simp; try with_reducible rfl
                  simp only [Act.put, List.setIfInBounds_toArray, List.set_cons_zero, List.set_cons_succ]
                  refine take_at (i := 10) 39 (pvo wk (wf + i * 3)) rfl rfl (by kernel_rfl) (by kernel_rfl) (by kernel_rfl) (fun _ _ _ h => h) (yields_ix (.tmp 37) (.tmp 38) 53 (.slice (some ⟨wk, wf, none⟩) rs.length wc) (.int .i64 (i : Int)) _ (fun W => IXR.out W) rfl rfl rfl rfl) BV.out ?_
                  simp only [Act.put, List.setIfInBounds_toArray, List.set_cons_zero, List.set_cons_succ]
                  refine take_at (i := 11) 40 ?_ rfl rfl (by kernel_rfl) (by kernel_rfl) (by kernel_rfl) (fun _ _ _ h => h) (.inl ⟨rfl, ?_⟩) BV.out ?_
                  rotate_left 1
                  · intro w hSw; go_simp; try with_reducible rfl
                  simp only [Act.put, List.setIfInBounds_toArray, List.set_cons_zero, List.set_cons_succ]
                  refine take_at (i := 12) 41 (.int .i64 p1) rfl rfl (by kernel_rfl) (by kernel_rfl) (by kernel_rfl) (fun _ _ _ h => h) (yields_ld (.tmp 40) 3 (pvo wk (wf + i * 3)) _ (fun W h => (CR.out W h).1) rfl rfl rfl) BV.out ?_
                  simp only [Act.put, List.setIfInBounds_toArray, List.set_cons_zero, List.set_cons_succ]
                  refine take_at (i := 13) 42 ?_ rfl rfl (by kernel_rfl) (by kernel_rfl) (by kernel_rfl) (fun _ _ _ h => h) (.inl ⟨rfl, ?_⟩) BV.out ?_
                  rotate_left 1
                  · intro w hSw; go_simp; try with_reducible rfl
                  simp only [Act.put, List.setIfInBounds_toArray, List.set_cons_zero, List.set_cons_succ]
                  refine take_at (i := 14) 43 ?_ rfl rfl (by kernel_rfl) (by kernel_rfl) (by kernel_rfl) (fun _ _ _ h => h) (.inl ⟨rfl, ?_⟩) BV.out ?_
                  rotate_left 1
                  · intro w hSw; go_simp; try with_reducible rfl
                  simp only [Act.put, List.setIfInBounds_toArray, List.set_cons_zero, List.set_cons_succ]
                  refine take_at (i := 15) 44 ?_ rfl rfl (by kernel_rfl) (by kernel_rfl) (by kernel_rfl) (fun _ _ _ h => h) (.inl ⟨rfl, ?_⟩) BV.out ?_
                  rotate_left 1
                  · intro w hSw; go_simp; try with_reducible rfl
                  simp only [Act.put, List.setIfInBounds_toArray, List.set_cons_zero, List.set_cons_succ]
                  refine take_at (i := 16) 45 ?_ rfl rfl (by kernel_rfl) (by kernel_rfl) (by kernel_rfl) (fun _ _ _ h => h) (.inl ⟨rfl, ?_⟩) BV.out ?_
                  rotate_left 1
                  · intro w hSw; go_simp; try with_reducible rfl
                  simp only [Act.put, List.setIfInBounds_toArray, List.set_cons_zero, List.set_cons_succ]
                  refine take_at (i := 17) 46 (.int .i64 xq) rfl rfl (by kernel_rfl) (by kernel_rfl) (by kernel_rfl) (fun _ _ _ h => h) (yields_ld (.tmp 45) 3 (pvo g4 2) _ (fun W h => (CX.out W h).2) rfl rfl rfl) BV.out ?_
                  simp only [Act.put, List.setIfInBounds_toArray, List.set_cons_zero, List.set_cons_succ]
                  refine take_at (i := 18) 47 ?_ rfl rfl (by kernel_rfl) (by kernel_rfl) (by kernel_rfl) (fun _ _ _ h => h) (.inl ⟨rfl, ?_⟩) BV.out ?_
                  rotate_left 1
                  · intro w hSw; go_simp; try with_reducible rfl
                  simp only [Act.put, List.setIfInBounds_toArray, List.set_cons_zero, List.set_cons_succ]
                  refine take_at (i := 19) 48 ?_ rfl rfl (by kernel_rfl) (by kernel_rfl) (by kernel_rfl) (fun _ _ _ h => h) (.inl ⟨rfl, ?_⟩) BV.out ?_
                  rotate_left 1
                  · intro w hSw; go_simp; try with_reducible rfl
                  simp only [Act.put, List.setIfInBounds_toArray, List.set_cons_zero, List.set_cons_succ]
                  refine take_at (i := 20) 49 (pvo wk (wf + i * 3)) rfl rfl (by kernel_rfl) (by kernel_rfl) (by kernel_rfl) (fun _ _ _ h => h) (yields_ix (.tmp 47) (.tmp 48) 53 (.slice (some ⟨wk, wf, none⟩) rs.length wc) (.int .i64 (i : Int)) _ (fun W => IXR.out W) rfl rfl rfl rfl) BV.out ?_
                  simp only [Act.put, List.setIfInBounds_toArray, List.set_cons_zero, List.set_cons_succ]
                  refine take_at (i := 21) 50 ?_ rfl rfl (by kernel_rfl) (by kernel_rfl) (by kernel_rfl) (fun _ _ _ h => h) (.inl ⟨rfl, ?_⟩) BV.out ?_
                  rotate_left 1
                  · intro w hSw; go_simp; try with_reducible rfl
                  simp only [Act.put, List.setIfInBounds_toArray, List.set_cons_zero, List.set_cons_succ]
                  refine take_at (i := 22) 51 (.int .i64 p2) rfl rfl (by kernel_rfl) (by kernel_rfl) (by kernel_rfl) (fun _ _ _ h => h) (yields_ld (.tmp 50) 3 (pvo wk (wf + i * 3 + 1)) _ (fun W h => (CR.out W h).2.1) rfl rfl rfl) BV.out ?_
                  simp only [Act.put, List.setIfInBounds_toArray, List.set_cons_zero, List.set_cons_succ]
                  refine take_at (i := 23) 52 ?_ rfl rfl (by kernel_rfl) (by kernel_rfl) (by kernel_rfl) (fun _ _ _ h => h) (.inl ⟨rfl, ?_⟩) BV.out ?_
                  rotate_left 1
                  · intro w hSw; go_simp; try with_reducible rfl
                  simp only [Act.put, List.setIfInBounds_toArray, List.set_cons_zero, List.set_cons_succ]
                  refine take_at (i := 24) 53 ?_ rfl rfl (by kernel_rfl) (by kernel_rfl) (by kernel_rfl) (fun _ _ _ h => h) (.inl ⟨rfl, ?_⟩) BV.out ?_
                  rotate_left 1
                  · intro w hSw; go_simp; try with_reducible rfl
                  simp only [Act.put, List.setIfInBounds_toArray, List.set_cons_zero, List.set_cons_succ]
                  refine take_at (i := 25) 54 ?_ rfl rfl (by kernel_rfl) (by kernel_rfl) (by kernel_rfl) (fun _ _ _ h => h) (.inl ⟨rfl, ?_⟩) BV.out ?_
                  rotate_left 1
                  · intro w hSw; go_simp; try with_reducible rfl
                  simp only [Act.put, List.setIfInBounds_toArray, List.set_cons_zero, List.set_cons_succ]
                  refine take_at (i := 26) 55 ?_ rfl rfl (by kernel_rfl) (by kernel_rfl) (by kernel_rfl) (fun _ _ _ h => h) (.inl ⟨rfl, ?_⟩) BV.out ?_
                  rotate_left 1
                  · intro w hSw; go_simp; try with_reducible rfl
                  simp only [Act.put, List.setIfInBounds_toArray, List.set_cons_zero, List.set_cons_succ]
                  refine take_at (i := 27) 56 (.int .i64 xq) rfl rfl (by kernel_rfl) (by kernel_rfl) (by kernel_rfl) (fun _ _ _ h => h) (yields_ld (.tmp 55) 3 (pvo g4 2) _ (fun W h => (CX.out W h).2) rfl rfl rfl) BV.out ?_
                  simp only [Act.put, List.setIfInBounds_toArray, List.set_cons_zero, List.set_cons_succ]
                  refine take_at (i := 28) 57 ?_ rfl rfl (by kernel_rfl) (by kernel_rfl) (by kernel_rfl) (fun _ _ _ h => h) (.inl ⟨rfl, ?_⟩) BV.out ?_
                  rotate_left 1
                  · intro w hSw; go_simp; try with_reducible rfl
                  simp only [Act.put, List.setIfInBounds_toArray, List.set_cons_zero, List.set_cons_succ]
                  refine take_at (i := 29) 58 ?_ rfl rfl (by kernel_rfl) (by kernel_rfl) (by kernel_rfl) (fun _ _ _ h => h) (.inl ⟨rfl, ?_⟩) BV.out ?_
                  rotate_left 1
                  · intro w hSw; go_simp; try with_reducible rfl
                  simp only [Act.put, List.setIfInBounds_toArray, List.set_cons_zero, List.set_cons_succ]
                  refine take_at (i := 30) 59 (pvo wk (wf + i * 3)) rfl rfl (by kernel_rfl) (by kernel_rfl) (by kernel_rfl) (fun _ _ _ h => h) (yields_ix (.tmp 57) (.tmp 58) 53 (.slice (some ⟨wk, wf, none⟩) rs.length wc) (.int .i64 (i : Int)) _ (fun W => IXR.out W) rfl rfl rfl rfl) BV.out ?_
                  simp only [Act.put, List.setIfInBounds_toArray, List.set_cons_zero, List.set_cons_succ]
                  refine take_at (i := 31) 60 ?_ rfl rfl (by kernel_rfl) (by kernel_rfl) (by kernel_rfl) (fun _ _ _ h => h) (.inl ⟨rfl, ?_⟩) BV.out ?_
                  rotate_left 1
                  · intro w hSw; go_simp; try with_reducible rfl
                  simp only [Act.put, List.setIfInBounds_toArray, List.set_cons_zero, List.set_cons_succ]
                  refine take_at (i := 32) 61 (.int .i64 p3) rfl rfl (by kernel_rfl) (by kernel_rfl) (by kernel_rfl) (fun _ _ _ h => h) (yields_ld (.tmp 60) 3 (pvo wk (wf + i * 3 + 2)) _ (fun W h => (CR.out W h).2.2) rfl rfl rfl) BV.out ?_
                  simp only [Act.put, List.setIfInBounds_toArray, List.set_cons_zero, List.set_cons_succ]
                  refine take_at (i := 33) 62 ?_ rfl rfl (by kernel_rfl) (by kernel_rfl) (by kernel_rfl) (fun _ _ _ h => h) (.inl ⟨rfl, ?_⟩) BV.out ?_
                  rotate_left 1
                  · intro w hSw; go_simp; try with_reducible rfl
                  simp only [Act.put, List.setIfInBounds_toArray, List.set_cons_zero, List.set_cons_succ]
                  refine take_at (i := 34) 63 ?_ rfl rfl (by kernel_rfl) (by kernel_rfl) (by kernel_rfl) (fun _ _ _ h => h) (.inl ⟨rfl, ?_⟩) BV.out ?_
                  rotate_left 1
                  · intro w hSw; go_simp; try with_reducible rfl
                  simp only [Act.put, List.setIfInBounds_toArray, List.set_cons_zero, List.set_cons_succ]
                  refine wpAnyH_done (by kernel_rfl) ?_ _
                  rw [HWD.out]
                  go_wp2
                  go_roundw
                  case rel => exact ⟨k + 1, ds, by go_num, by omega, by first | trivial | rfl, by rw [HN.out]; omega, E, TD⟩
                  case measure => simp [intOf]; omega
              · have E := Lib.hid (show ds = ((rs.take i).flatMap (partR l) ++ (l.take (k + 1)).filter (inR p1 p2 p3)).take M by
                  rw [HF.out, if_neg (by rw [HIN.out]; simp [q2]), List.append_nil]; exact HD.out)
                clear HIN HF HMN HD H6 T6 BOX
                go_upto_region 9 with (first | (refine wpList_ld rfl (.tmp 27) 40 rfl (pvo g (off + k * 9)) XV rfl LX.out ?_; simp only [Act.put, List.setIfInBounds_toArray, List.set_cons_zero, List.set_cons_succ]) | (refine Ve.wpList_alloc_arr rfl 40 rfl _ _ A4.out ?_; simp only [Act.put, List.setIfInBounds_toArray, List.set_cons_zero, List.set_cons_succ]) | (refine Ve.wpList_store_arr rfl (.tmp 10) (.tmp 28) 40 rfl (pvo g4 0) XV rfl rfl _ S4.out ?_; simp only [Act.put, List.setIfInBounds_toArray, List.set_cons_zero, List.set_cons_succ]))
                refine wp_region_held_drew (S := fun w' => Below w2.heap.size w2 w') (by kernel_rfl) (Below.refl _ _).drew (fun hHeld => ?_)
                have BV := Lib.hid (show Below w2.heap.size w2 w2.drew from (Below.refl _ _).drew)
                clear hHeld
                refine take_at (i := 0) 29 ?_ rfl rfl (by kernel_rfl) (by kernel_rfl) (by kernel_rfl) (fun _ _ _ h => h) (.inl ⟨rfl, ?_⟩) BV.out ?_
                rotate_left 1
                · intro w hSw; go_simp; try with_reducible rfl
                simp only [Act.put, List.setIfInBounds_toArray, List.set_cons_zero, List.set_cons_succ]
                refine take_at (i := 1) 30 ?_ rfl rfl (by kernel_rfl) (by kernel_rfl) (by kernel_rfl) (fun _ _ _ h => h) (.inl ⟨rfl, ?_⟩) BV.out ?_
                rotate_left 1
                · intro w hSw; go_simp; try with_reducible rfl
                simp only [Act.put, List.setIfInBounds_toArray, List.set_cons_zero, List.set_cons_succ]
                refine take_at (i := 2) 31 ?_ rfl rfl (by kernel_rfl) (by kernel_rfl) (by kernel_rfl) (fun _ _ _ h => h) (.inl ⟨rfl, ?_⟩) BV.out ?_
                rotate_left 1
                · intro w hSw; go_simp; try with_reducible rfl
                simp only [Act.put, List.setIfInBounds_toArray, List.set_cons_zero, List.set_cons_succ]
                refine take_at (i := 3) 32 ?_ rfl rfl (by kernel_rfl) (by kernel_rfl) (by kernel_rfl) (fun _ _ _ h => h) (.inl ⟨rfl, ?_⟩) BV.out ?_
                rotate_left 1
                · intro w hSw; go_simp; try with_reducible rfl
                simp only [Act.put, List.setIfInBounds_toArray, List.set_cons_zero, List.set_cons_succ]
                refine take_at (i := 4) 33 ?_ rfl rfl (by kernel_rfl) (by kernel_rfl) (by kernel_rfl) (fun _ _ _ h => h) (.inl ⟨rfl, ?_⟩) BV.out ?_
                rotate_left 1
                · intro w hSw; go_simp; try with_reducible rfl
                simp only [Act.put, List.setIfInBounds_toArray, List.set_cons_zero, List.set_cons_succ]
                refine take_at (i := 5) 34 ?_ rfl rfl (by kernel_rfl) (by kernel_rfl) (by kernel_rfl) (fun _ _ _ h => h) (.inl ⟨rfl, ?_⟩) BV.out ?_
                rotate_left 1
                · intro w hSw; go_simp; try with_reducible rfl
                simp only [Act.put, List.setIfInBounds_toArray, List.set_cons_zero, List.set_cons_succ]
                refine take_at (i := 6) 35 ?_ rfl rfl (by kernel_rfl) (by kernel_rfl) (by kernel_rfl) (fun _ _ _ h => h) (.inl ⟨rfl, ?_⟩) BV.out ?_
                rotate_left 1
                · intro w hSw; go_simp; try with_reducible rfl
                simp only [Act.put, List.setIfInBounds_toArray, List.set_cons_zero, List.set_cons_succ]
                refine take_at (i := 7) 36 (.int .i64 xr) rfl rfl (by kernel_rfl) (by kernel_rfl) (by kernel_rfl) (fun _ _ _ h => h) (yields_ld (.tmp 35) 3 (pvo g4 1) _ (fun W h => (CX.out W h).1) rfl rfl rfl) BV.out ?_
                simp only [Act.put, List.setIfInBounds_toArray, List.set_cons_zero, List.set_cons_succ]
                refine take_at (i := 8) 37 ?_ rfl rfl (by kernel_rfl) (by kernel_rfl) (by kernel_rfl) (fun _ _ _ h => h) (.inl ⟨rfl, ?_⟩) BV.out ?_
                rotate_left 1
                · intro w hSw; go_simp; try with_reducible rfl
                simp only [Act.put, List.setIfInBounds_toArray, List.set_cons_zero, List.set_cons_succ]
                refine take_at (i := 9) 38 ?_ rfl rfl (by kernel_rfl) (by kernel_rfl) (by kernel_rfl) (fun _ _ _ h => h) (.inl ⟨rfl, ?_⟩) BV.out ?_
                rotate_left 1
                · intro w hSw; go_simp; try with_reducible rfl
                simp only [Act.put, List.setIfInBounds_toArray, List.set_cons_zero, List.set_cons_succ]
                refine take_at (i := 10) 39 (pvo wk (wf + i * 3)) rfl rfl (by kernel_rfl) (by kernel_rfl) (by kernel_rfl) (fun _ _ _ h => h) (yields_ix (.tmp 37) (.tmp 38) 53 (.slice (some ⟨wk, wf, none⟩) rs.length wc) (.int .i64 (i : Int)) _ (fun W => IXR.out W) rfl rfl rfl rfl) BV.out ?_
                simp only [Act.put, List.setIfInBounds_toArray, List.set_cons_zero, List.set_cons_succ]
                refine take_at (i := 11) 40 ?_ rfl rfl (by kernel_rfl) (by kernel_rfl) (by kernel_rfl) (fun _ _ _ h => h) (.inl ⟨rfl, ?_⟩) BV.out ?_
                rotate_left 1
                · intro w hSw; go_simp; try with_reducible rfl
                simp only [Act.put, List.setIfInBounds_toArray, List.set_cons_zero, List.set_cons_succ]
                refine take_at (i := 12) 41 (.int .i64 p1) rfl rfl (by kernel_rfl) (by kernel_rfl) (by kernel_rfl) (fun _ _ _ h => h) (yields_ld (.tmp 40) 3 (pvo wk (wf + i * 3)) _ (fun W h => (CR.out W h).1) rfl rfl rfl) BV.out ?_
                simp only [Act.put, List.setIfInBounds_toArray, List.set_cons_zero, List.set_cons_succ]
                refine take_at (i := 13) 42 ?_ rfl rfl (by kernel_rfl) (by kernel_rfl) (by kernel_rfl) (fun _ _ _ h => h) (.inl ⟨rfl, ?_⟩) BV.out ?_
                rotate_left 1
                · intro w hSw; go_simp; try with_reducible rfl
                simp only [Act.put, List.setIfInBounds_toArray, List.set_cons_zero, List.set_cons_succ]
                refine take_at (i := 14) 43 ?_ rfl rfl (by kernel_rfl) (by kernel_rfl) (by kernel_rfl) (fun _ _ _ h => h) (.inl ⟨rfl, ?_⟩) BV.out ?_
                rotate_left 1
                · intro w hSw; go_simp; try with_reducible rfl
                simp only [Act.put, List.setIfInBounds_toArray, List.set_cons_zero, List.set_cons_succ]
                refine take_at (i := 15) 44 ?_ rfl rfl (by kernel_rfl) (by kernel_rfl) (by kernel_rfl) (fun _ _ _ h => h) (.inl ⟨rfl, ?_⟩) BV.out ?_
                rotate_left 1
                · intro w hSw; go_simp; try with_reducible rfl
                simp only [Act.put, List.setIfInBounds_toArray, List.set_cons_zero, List.set_cons_succ]
                refine take_at (i := 16) 45 ?_ rfl rfl (by kernel_rfl) (by kernel_rfl) (by kernel_rfl) (fun _ _ _ h => h) (.inl ⟨rfl, ?_⟩) BV.out ?_
                rotate_left 1
                · intro w hSw; go_simp; try with_reducible rfl
                simp only [Act.put, List.setIfInBounds_toArray, List.set_cons_zero, List.set_cons_succ]
                refine take_at (i := 17) 46 (.int .i64 xq) rfl rfl (by kernel_rfl) (by kernel_rfl) (by kernel_rfl) (fun _ _ _ h => h) (yields_ld (.tmp 45) 3 (pvo g4 2) _ (fun W h => (CX.out W h).2) rfl rfl rfl) BV.out ?_
                simp only [Act.put, List.setIfInBounds_toArray, List.set_cons_zero, List.set_cons_succ]
                refine take_at (i := 18) 47 ?_ rfl rfl (by kernel_rfl) (by kernel_rfl) (by kernel_rfl) (fun _ _ _ h => h) (.inl ⟨rfl, ?_⟩) BV.out ?_
                rotate_left 1
                · intro w hSw; go_simp; try with_reducible rfl
                simp only [Act.put, List.setIfInBounds_toArray, List.set_cons_zero, List.set_cons_succ]
                refine take_at (i := 19) 48 ?_ rfl rfl (by kernel_rfl) (by kernel_rfl) (by kernel_rfl) (fun _ _ _ h => h) (.inl ⟨rfl, ?_⟩) BV.out ?_
                rotate_left 1
                · intro w hSw; go_simp; try with_reducible rfl
                simp only [Act.put, List.setIfInBounds_toArray, List.set_cons_zero, List.set_cons_succ]
                refine take_at (i := 20) 49 (pvo wk (wf + i * 3)) rfl rfl (by kernel_rfl) (by kernel_rfl) (by kernel_rfl) (fun _ _ _ h => h) (yields_ix (.tmp 47) (.tmp 48) 53 (.slice (some ⟨wk, wf, none⟩) rs.length wc) (.int .i64 (i : Int)) _ (fun W => IXR.out W) rfl rfl rfl rfl) BV.out ?_
                simp only [Act.put, List.setIfInBounds_toArray, List.set_cons_zero, List.set_cons_succ]
                refine take_at (i := 21) 50 ?_ rfl rfl (by kernel_rfl) (by kernel_rfl) (by kernel_rfl) (fun _ _ _ h => h) (.inl ⟨rfl, ?_⟩) BV.out ?_
                rotate_left 1
                · intro w hSw; go_simp; try with_reducible rfl
                simp only [Act.put, List.setIfInBounds_toArray, List.set_cons_zero, List.set_cons_succ]
                refine take_at (i := 22) 51 (.int .i64 p2) rfl rfl (by kernel_rfl) (by kernel_rfl) (by kernel_rfl) (fun _ _ _ h => h) (yields_ld (.tmp 50) 3 (pvo wk (wf + i * 3 + 1)) _ (fun W h => (CR.out W h).2.1) rfl rfl rfl) BV.out ?_
                simp only [Act.put, List.setIfInBounds_toArray, List.set_cons_zero, List.set_cons_succ]
                refine take_at (i := 23) 52 ?_ rfl rfl (by kernel_rfl) (by kernel_rfl) (by kernel_rfl) (fun _ _ _ h => h) (.inl ⟨rfl, ?_⟩) BV.out ?_
                rotate_left 1
                · intro w hSw; go_simp; try with_reducible rfl
                simp only [Act.put, List.setIfInBounds_toArray, List.set_cons_zero, List.set_cons_succ]
                refine take_at (i := 24) 53 ?_ rfl rfl (by kernel_rfl) (by kernel_rfl) (by kernel_rfl) (fun _ _ _ h => h) (.inl ⟨rfl, ?_⟩) BV.out ?_
                rotate_left 1
                · intro w hSw; go_simp; try with_reducible rfl
                simp only [Act.put, List.setIfInBounds_toArray, List.set_cons_zero, List.set_cons_succ]
                refine take_at (i := 25) 54 ?_ rfl rfl (by kernel_rfl) (by kernel_rfl) (by kernel_rfl) (fun _ _ _ h => h) (.inl ⟨rfl, ?_⟩) BV.out ?_
                rotate_left 1
                · intro w hSw; go_simp; try with_reducible rfl
                simp only [Act.put, List.setIfInBounds_toArray, List.set_cons_zero, List.set_cons_succ]
                refine take_at (i := 26) 55 undef rfl rfl (by kernel_rfl) (by kernel_rfl) (by kernel_rfl) (fun _ _ _ h => h) (.inr ⟨rfl, rfl⟩) BV.out ?_
                simp only [Act.put, List.setIfInBounds_toArray, List.set_cons_zero, List.set_cons_succ]
                refine take_at (i := 27) 56 undef rfl rfl (by kernel_rfl) (by kernel_rfl) (by kernel_rfl) (fun _ _ _ h => h) (.inr ⟨rfl, rfl⟩) BV.out ?_
                simp only [Act.put, List.setIfInBounds_toArray, List.set_cons_zero, List.set_cons_succ]
                refine take_at (i := 28) 57 undef rfl rfl (by kernel_rfl) (by kernel_rfl) (by kernel_rfl) (fun _ _ _ h => h) (.inr ⟨rfl, rfl⟩) BV.out ?_
                simp only [Act.put, List.setIfInBounds_toArray, List.set_cons_zero, List.set_cons_succ]
                refine take_at (i := 29) 58 undef rfl rfl (by kernel_rfl) (by kernel_rfl) (by kernel_rfl) (fun _ _ _ h => h) (.inr ⟨rfl, rfl⟩) BV.out ?_
                simp only [Act.put, List.setIfInBounds_toArray, List.set_cons_zero, List.set_cons_succ]
                refine take_at (i := 30) 59 undef rfl rfl (by kernel_rfl) (by kernel_rfl) (by kernel_rfl) (fun _ _ _ h => h) (.inr ⟨rfl, rfl⟩) BV.out ?_
                simp only [Act.put, List.setIfInBounds_toArray, List.set_cons_zero, List.set_cons_succ]
                refine take_at (i := 31) 60 undef rfl rfl (by kernel_rfl) (by kernel_rfl) (by kernel_rfl) (fun _ _ _ h => h) (.inr ⟨rfl, rfl⟩) BV.out ?_
                simp only [Act.put, List.setIfInBounds_toArray, List.set_cons_zero, List.set_cons_succ]
                refine take_at (i := 32) 61 undef rfl rfl (by kernel_rfl) (by kernel_rfl) (by kernel_rfl) (fun _ _ _ h => h) (.inr ⟨rfl, rfl⟩) BV.out ?_
                simp only [Act.put, List.setIfInBounds_toArray, List.set_cons_zero, List.set_cons_succ]
                refine take_at (i := 33) 62 undef rfl rfl (by kernel_rfl) (by kernel_rfl) (by kernel_rfl) (fun _ _ _ h => h) (.inr ⟨rfl, rfl⟩) BV.out ?_
                simp only [Act.put, List.setIfInBounds_toArray, List.set_cons_zero, List.set_cons_succ]
                refine take_at (i := 34) 63 ?_ rfl rfl (by kernel_rfl) (by kernel_rfl) (by kernel_rfl) (fun _ _ _ h => h) (.inl ⟨rfl, ?_⟩) BV.out ?_
                rotate_left 1
                · intro w hSw; go_simp; try with_reducible rfl
                simp only [Act.put, List.setIfInBounds_toArray, List.set_cons_zero, List.set_cons_succ]
                refine wpAnyH_done (by kernel_rfl) ?_ _
                rw [HWD.out]
                go_wp2
                go_roundw
                case rel => exact ⟨k + 1, ds, by go_num, by omega, by first | trivial | rfl, by rw [HN.out]; omega, E, TD⟩
                case measure => simp [intOf]; omega
            · have e1 := bneb_ xr p1 q1
              have E := Lib.hid (show ds = ((rs.take i).flatMap (partR l) ++ (l.take (k + 1)).filter (inR p1 p2 p3)).take M by
                rw [HF.out, if_neg (by rw [HIN.out]; simp [q1]), List.append_nil]; exact HD.out)
              clear HIN HF HMN HD H6 T6 BOX
              go_upto_region 9 with (first | (refine wpList_ld rfl (.tmp 27) 40 rfl (pvo g (off + k * 9)) XV rfl LX.out ?_; simp only [Act.put, List.setIfInBounds_toArray, List.set_cons_zero, List.set_cons_succ]) | (refine Ve.wpList_alloc_arr rfl 40 rfl _ _ A4.out ?_; simp only [Act.put, List.setIfInBounds_toArray, List.set_cons_zero, List.set_cons_succ]) | (refine Ve.wpList_store_arr rfl (.tmp 10) (.tmp 28) 40 rfl (pvo g4 0) XV rfl rfl _ S4.out ?_; simp only [Act.put, List.setIfInBounds_toArray, List.set_cons_zero, List.set_cons_succ]))
              refine wp_region_held_drew (S := fun w' => Below w2.heap.size w2 w') (by kernel_rfl) (Below.refl _ _).drew (fun hHeld => ?_)
              have BV := Lib.hid (show Below w2.heap.size w2 w2.drew from (Below.refl _ _).drew)
              clear hHeld
              refine take_at (i := 0) 29 ?_ rfl rfl (by kernel_rfl) (by kernel_rfl) (by kernel_rfl) (fun _ _ _ h => h) (.inl ⟨rfl, ?_⟩) BV.out ?_
              rotate_left 1
              · intro w hSw; go_simp; try with_reducible rfl
              simp only [Act.put, List.setIfInBounds_toArray, List.set_cons_zero, List.set_cons_succ]
              refine take_at (i := 1) 30 ?_ rfl rfl (by kernel_rfl) (by kernel_rfl) (by kernel_rfl) (fun _ _ _ h => h) (.inl ⟨rfl, ?_⟩) BV.out ?_
              rotate_left 1
              · intro w hSw; go_simp; try with_reducible rfl
              simp only [Act.put, List.setIfInBounds_toArray, List.set_cons_zero, List.set_cons_succ]
              refine take_at (i := 2) 31 ?_ rfl rfl (by kernel_rfl) (by kernel_rfl) (by kernel_rfl) (fun _ _ _ h => h) (.inl ⟨rfl, ?_⟩) BV.out ?_
              rotate_left 1
              · intro w hSw; go_simp; try with_reducible rfl
              simp only [Act.put, List.setIfInBounds_toArray, List.set_cons_zero, List.set_cons_succ]
              refine take_at (i := 3) 32 ?_ rfl rfl (by kernel_rfl) (by kernel_rfl) (by kernel_rfl) (fun _ _ _ h => h) (.inl ⟨rfl, ?_⟩) BV.out ?_
              rotate_left 1
              · intro w hSw; go_simp; try with_reducible rfl
              simp only [Act.put, List.setIfInBounds_toArray, List.set_cons_zero, List.set_cons_succ]
              refine take_at (i := 4) 33 ?_ rfl rfl (by kernel_rfl) (by kernel_rfl) (by kernel_rfl) (fun _ _ _ h => h) (.inl ⟨rfl, ?_⟩) BV.out ?_
              rotate_left 1
              · intro w hSw; go_simp; try with_reducible rfl
              simp only [Act.put, List.setIfInBounds_toArray, List.set_cons_zero, List.set_cons_succ]
              refine take_at (i := 5) 34 ?_ rfl rfl (by kernel_rfl) (by kernel_rfl) (by kernel_rfl) (fun _ _ _ h => h) (.inl ⟨rfl, ?_⟩) BV.out ?_
              rotate_left 1
              · intro w hSw; go_simp; try with_reducible rfl
              simp only [Act.put, List.setIfInBounds_toArray, List.set_cons_zero, List.set_cons_succ]
              refine take_at (i := 6) 35 ?_ rfl rfl (by kernel_rfl) (by kernel_rfl) (by kernel_rfl) (fun _ _ _ h => h) (.inl ⟨rfl, ?_⟩) BV.out ?_
              rotate_left 1
              · intro w hSw; go_simp; try with_reducible rfl
              simp only [Act.put, List.setIfInBounds_toArray, List.set_cons_zero, List.set_cons_succ]
              refine take_at (i := 7) 36 (.int .i64 xr) rfl rfl (by kernel_rfl) (by kernel_rfl) (by kernel_rfl) (fun _ _ _ h => h) (yields_ld (.tmp 35) 3 (pvo g4 1) _ (fun W h => (CX.out W h).1) rfl rfl rfl) BV.out ?_
              simp only [Act.put, List.setIfInBounds_toArray, List.set_cons_zero, List.set_cons_succ]
              refine take_at (i := 8) 37 ?_ rfl rfl (by kernel_rfl) (by kernel_rfl) (by kernel_rfl) (fun _ _ _ h => h) (.inl ⟨rfl, ?_⟩) BV.out ?_
              rotate_left 1
              · intro w hSw; go_simp; try with_reducible rfl
              simp only [Act.put, List.setIfInBounds_toArray, List.set_cons_zero, List.set_cons_succ]
              refine take_at (i := 9) 38 ?_ rfl rfl (by kernel_rfl) (by kernel_rfl) (by kernel_rfl) (fun _ _ _ h => h) (.inl ⟨rfl, ?_⟩) BV.out ?_
              rotate_left 1
              · intro w hSw; go_simp; try with_reducible rfl
              simp only [Act.put, List.setIfInBounds_toArray, List.set_cons_zero, List.set_cons_succ]
              refine take_at (i := 10) 39 (pvo wk (wf + i * 3)) rfl rfl (by kernel_rfl) (by kernel_rfl) (by kernel_rfl) (fun _ _ _ h => h) (yields_ix (.tmp 37) (.tmp 38) 53 (.slice (some ⟨wk, wf, none⟩) rs.length wc) (.int .i64 (i : Int)) _ (fun W => IXR.out W) rfl rfl rfl rfl) BV.out ?_
              simp only [Act.put, List.setIfInBounds_toArray, List.set_cons_zero, List.set_cons_succ]
              refine take_at (i := 11) 40 ?_ rfl rfl (by kernel_rfl) (by kernel_rfl) (by kernel_rfl) (fun _ _ _ h => h) (.inl ⟨rfl, ?_⟩) BV.out ?_
              rotate_left 1
              · intro w hSw; go_simp; try with_reducible rfl
              simp only [Act.put, List.setIfInBounds_toArray, List.set_cons_zero, List.set_cons_succ]
              refine take_at (i := 12) 41 (.int .i64 p1) rfl rfl (by kernel_rfl) (by kernel_rfl) (by kernel_rfl) (fun _ _ _ h => h) (yields_ld (.tmp 40) 3 (pvo wk (wf + i * 3)) _ (fun W h => (CR.out W h).1) rfl rfl rfl) BV.out ?_
              simp only [Act.put, List.setIfInBounds_toArray, List.set_cons_zero, List.set_cons_succ]
              refine take_at (i := 13) 42 ?_ rfl rfl (by kernel_rfl) (by kernel_rfl) (by kernel_rfl) (fun _ _ _ h => h) (.inl ⟨rfl, ?_⟩) BV.out ?_
              rotate_left 1
              · intro w hSw; go_simp; try with_reducible rfl
              simp only [Act.put, List.setIfInBounds_toArray, List.set_cons_zero, List.set_cons_succ]
              refine take_at (i := 14) 43 ?_ rfl rfl (by kernel_rfl) (by kernel_rfl) (by kernel_rfl) (fun _ _ _ h => h) (.inl ⟨rfl, ?_⟩) BV.out ?_
              rotate_left 1
              · intro w hSw; go_simp; try with_reducible rfl
              simp only [Act.put, List.setIfInBounds_toArray, List.set_cons_zero, List.set_cons_succ]
              refine take_at (i := 15) 44 ?_ rfl rfl (by kernel_rfl) (by kernel_rfl) (by kernel_rfl) (fun _ _ _ h => h) (.inl ⟨rfl, ?_⟩) BV.out ?_
              rotate_left 1
              · intro w hSw; go_simp; try with_reducible rfl
              simp only [Act.put, List.setIfInBounds_toArray, List.set_cons_zero, List.set_cons_succ]
              refine take_at (i := 16) 45 undef rfl rfl (by kernel_rfl) (by kernel_rfl) (by kernel_rfl) (fun _ _ _ h => h) (.inr ⟨rfl, rfl⟩) BV.out ?_
              simp only [Act.put, List.setIfInBounds_toArray, List.set_cons_zero, List.set_cons_succ]
              refine take_at (i := 17) 46 undef rfl rfl (by kernel_rfl) (by kernel_rfl) (by kernel_rfl) (fun _ _ _ h => h) (.inr ⟨rfl, rfl⟩) BV.out ?_
              simp only [Act.put, List.setIfInBounds_toArray, List.set_cons_zero, List.set_cons_succ]
              refine take_at (i := 18) 47 undef rfl rfl (by kernel_rfl) (by kernel_rfl) (by kernel_rfl) (fun _ _ _ h => h) (.inr ⟨rfl, rfl⟩) BV.out ?_
              simp only [Act.put, List.setIfInBounds_toArray, List.set_cons_zero, List.set_cons_succ]
              refine take_at (i := 19) 48 undef rfl rfl (by kernel_rfl) (by kernel_rfl) (by kernel_rfl) (fun _ _ _ h => h) (.inr ⟨rfl, rfl⟩) BV.out ?_
              simp only [Act.put, List.setIfInBounds_toArray, List.set_cons_zero, List.set_cons_succ]
              refine take_at (i := 20) 49 undef rfl rfl (by kernel_rfl) (by kernel_rfl) (by kernel_rfl) (fun _ _ _ h => h) (.inr ⟨rfl, rfl⟩) BV.out ?_
              simp only [Act.put, List.setIfInBounds_toArray, List.set_cons_zero, List.set_cons_succ]
              refine take_at (i := 21) 50 undef rfl rfl (by kernel_rfl) (by kernel_rfl) (by kernel_rfl) (fun _ _ _ h => h) (.inr ⟨rfl, rfl⟩) BV.out ?_
              simp only [Act.put, List.setIfInBounds_toArray, List.set_cons_zero, List.set_cons_succ]
              refine take_at (i := 22) 51 undef rfl rfl (by kernel_rfl) (by kernel_rfl) (by kernel_rfl) (fun _ _ _ h => h) (.inr ⟨rfl, rfl⟩) BV.out ?_
              simp only [Act.put, List.setIfInBounds_toArray, List.set_cons_zero, List.set_cons_succ]
              refine take_at (i := 23) 52 undef rfl rfl (by kernel_rfl) (by kernel_rfl) (by kernel_rfl) (fun _ _ _ h => h) (.inr ⟨rfl, rfl⟩) BV.out ?_
              simp only [Act.put, List.setIfInBounds_toArray, List.set_cons_zero, List.set_cons_succ]
              refine take_at (i := 24) 53 ?_ rfl rfl (by kernel_rfl) (by kernel_rfl) (by kernel_rfl) (fun _ _ _ h => h) (.inl ⟨rfl, ?_⟩) BV.out ?_
              rotate_left 1
              · intro w hSw; go_simp; try with_reducible rfl
              simp only [Act.put, List.setIfInBounds_toArray, List.set_cons_zero, List.set_cons_succ]
              refine take_at (i := 25) 54 ?_ rfl rfl (by kernel_rfl) (by kernel_rfl) (by kernel_rfl) (fun _ _ _ h => h) (.inl ⟨rfl, ?_⟩) BV.out ?_
              rotate_left 1
              · intro w hSw; go_simp; try with_reducible rfl
              simp only [Act.put, List.setIfInBounds_toArray, List.set_cons_zero, List.set_cons_succ]
              refine take_at (i := 26) 55 undef rfl rfl (by kernel_rfl) (by kernel_rfl) (by kernel_rfl) (fun _ _ _ h => h) (.inr ⟨rfl, rfl⟩) BV.out ?_
              simp only [Act.put, List.setIfInBounds_toArray, List.set_cons_zero, List.set_cons_succ]
              refine take_at (i := 27) 56 undef rfl rfl (by kernel_rfl) (by kernel_rfl) (by kernel_rfl) (fun _ _ _ h => h) (.inr ⟨rfl, rfl⟩) BV.out ?_
              simp only [Act.put, List.setIfInBounds_toArray, List.set_cons_zero, List.set_cons_succ]
              refine take_at (i := 28) 57 undef rfl rfl (by kernel_rfl) (by kernel_rfl) (by kernel_rfl) (fun _ _ _ h => h) (.inr ⟨rfl, rfl⟩) BV.out ?_
              simp only [Act.put, List.setIfInBounds_toArray, List.set_cons_zero, List.set_cons_succ]
              refine take_at (i := 29) 58 undef rfl rfl (by kernel_rfl) (by kernel_rfl) (by kernel_rfl) (fun _ _ _ h => h) (.inr ⟨rfl, rfl⟩) BV.out ?_
              simp only [Act.put, List.setIfInBounds_toArray, List.set_cons_zero, List.set_cons_succ]
              refine take_at (i := 30) 59 undef rfl rfl (by kernel_rfl) (by kernel_rfl) (by kernel_rfl) (fun _ _ _ h => h) (.inr ⟨rfl, rfl⟩) BV.out ?_
              simp only [Act.put, List.setIfInBounds_toArray, List.set_cons_zero, List.set_cons_succ]
              refine take_at (i := 31) 60 undef rfl rfl (by kernel_rfl) (by kernel_rfl) (by kernel_rfl) (fun _ _ _ h => h) (.inr ⟨rfl, rfl⟩) BV.out ?_
              simp only [Act.put, List.setIfInBounds_toArray, List.set_cons_zero, List.set_cons_succ]
              refine take_at (i := 32) 61 undef rfl rfl (by kernel_rfl) (by kernel_rfl) (by kernel_rfl) (fun _ _ _ h => h) (.inr ⟨rfl, rfl⟩) BV.out ?_
              simp only [Act.put, List.setIfInBounds_toArray, List.set_cons_zero, List.set_cons_succ]
              refine take_at (i := 33) 62 undef rfl rfl (by kernel_rfl) (by kernel_rfl) (by kernel_rfl) (fun _ _ _ h => h) (.inr ⟨rfl, rfl⟩) BV.out ?_
              simp only [Act.put, List.setIfInBounds_toArray, List.set_cons_zero, List.set_cons_succ]
              refine take_at (i := 34) 63 ?_ rfl rfl (by kernel_rfl) (by kernel_rfl) (by kernel_rfl) (fun _ _ _ h => h) (.inl ⟨rfl, ?_⟩) BV.out ?_
              rotate_left 1
              · intro w hSw; go_simp; try with_reducible rfl
              simp only [Act.put, List.setIfInBounds_toArray, List.set_cons_zero, List.set_cons_succ]
              refine wpAnyH_done (by kernel_rfl) ?_ _
              rw [HWD.out]
              go_wp2
              go_roundw
              case rel => exact ⟨k + 1, ds, by go_num, by omega, by first | trivial | rfl, by rw [HN.out]; omega, E, TD⟩
              case measure => simp [intOf]; omega
          · have E := Lib.hid (show ds = ((rs.take i).flatMap (partR l) ++ (l.take (k + 1)).filter (inR p1 p2 p3)).take M by
              cases hq : inR p1 p2 p3 x with
              | true => rw [HF.out, if_pos hq, ← List.append_assoc, take_ge x (by rw [← HD.out, HN.out]; exact of_decide_eq_false (HMN.out.symm.trans (decide_eq_false q0)))]; exact HD.out
              | false => rw [HF.out, if_neg (by rw [hq]; simp), List.append_nil]; exact HD.out)
            clear HIN HF HMN HD H6 T6 BOX
            go_upto_region 9 with (first | (refine wpList_ld rfl (.tmp 27) 40 rfl (pvo g (off + k * 9)) XV rfl LX.out ?_; simp only [Act.put, List.setIfInBounds_toArray, List.set_cons_zero, List.set_cons_succ]) | (refine Ve.wpList_alloc_arr rfl 40 rfl _ _ A4.out ?_; simp only [Act.put, List.setIfInBounds_toArray, List.set_cons_zero, List.set_cons_succ]) | (refine Ve.wpList_store_arr rfl (.tmp 10) (.tmp 28) 40 rfl (pvo g4 0) XV rfl rfl _ S4.out ?_; simp only [Act.put, List.setIfInBounds_toArray, List.set_cons_zero, List.set_cons_succ]))
            refine wp_region_held_drew (S := fun w' => Below w2.heap.size w2 w') (by kernel_rfl) (Below.refl _ _).drew (fun hHeld => ?_)
            have BV := Lib.hid (show Below w2.heap.size w2 w2.drew from (Below.refl _ _).drew)
            clear hHeld
            refine take_at (i := 0) 29 ?_ rfl rfl (by kernel_rfl) (by kernel_rfl) (by kernel_rfl) (fun _ _ _ h => h) (.inl ⟨rfl, ?_⟩) BV.out ?_
            rotate_left 1
            · intro w hSw; go_simp; try with_reducible rfl
            simp only [Act.put, List.setIfInBounds_toArray, List.set_cons_zero, List.set_cons_succ]
            refine take_at (i := 1) 30 ?_ rfl rfl (by kernel_rfl) (by kernel_rfl) (by kernel_rfl) (fun _ _ _ h => h) (.inl ⟨rfl, ?_⟩) BV.out ?_
            rotate_left 1
            · intro w hSw; go_simp; try with_reducible rfl
            simp only [Act.put, List.setIfInBounds_toArray, List.set_cons_zero, List.set_cons_succ]
            refine take_at (i := 2) 31 ?_ rfl rfl (by kernel_rfl) (by kernel_rfl) (by kernel_rfl) (fun _ _ _ h => h) (.inl ⟨rfl, ?_⟩) BV.out ?_
            rotate_left 1
            · intro w hSw; go_simp; try with_reducible rfl
            simp only [Act.put, List.setIfInBounds_toArray, List.set_cons_zero, List.set_cons_succ]
            refine take_at (i := 3) 32 ?_ rfl rfl (by kernel_rfl) (by kernel_rfl) (by kernel_rfl) (fun _ _ _ h => h) (.inl ⟨rfl, ?_⟩) BV.out ?_
            rotate_left 1
            · intro w hSw; go_simp; try with_reducible rfl
            simp only [Act.put, List.setIfInBounds_toArray, List.set_cons_zero, List.set_cons_succ]
            refine take_at (i := 4) 33 ?_ rfl rfl (by kernel_rfl) (by kernel_rfl) (by kernel_rfl) (fun _ _ _ h => h) (.inl ⟨rfl, ?_⟩) BV.out ?_
            rotate_left 1
            · intro w hSw; go_simp; try with_reducible rfl
            simp only [Act.put, List.setIfInBounds_toArray, List.set_cons_zero, List.set_cons_succ]
            refine take_at (i := 5) 34 undef rfl rfl (by kernel_rfl) (by kernel_rfl) (by kernel_rfl) (fun _ _ _ h => h) (.inr ⟨rfl, rfl⟩) BV.out ?_
            simp only [Act.put, List.setIfInBounds_toArray, List.set_cons_zero, List.set_cons_succ]
            refine take_at (i := 6) 35 undef rfl rfl (by kernel_rfl) (by kernel_rfl) (by kernel_rfl) (fun _ _ _ h => h) (.inr ⟨rfl, rfl⟩) BV.out ?_
            simp only [Act.put, List.setIfInBounds_toArray, List.set_cons_zero, List.set_cons_succ]
            refine take_at (i := 7) 36 undef rfl rfl (by kernel_rfl) (by kernel_rfl) (by kernel_rfl) (fun _ _ _ h => h) (.inr ⟨rfl, rfl⟩) BV.out ?_
            simp only [Act.put, List.setIfInBounds_toArray, List.set_cons_zero, List.set_cons_succ]
            refine take_at (i := 8) 37 undef rfl rfl (by kernel_rfl) (by kernel_rfl) (by kernel_rfl) (fun _ _ _ h => h) (.inr ⟨rfl, rfl⟩) BV.out ?_
            simp only [Act.put, List.setIfInBounds_toArray, List.set_cons_zero, List.set_cons_succ]
            refine take_at (i := 9) 38 undef rfl rfl (by kernel_rfl) (by kernel_rfl) (by kernel_rfl) (fun _ _ _ h => h) (.inr ⟨rfl, rfl⟩) BV.out ?_
            simp only [Act.put, List.setIfInBounds_toArray, List.set_cons_zero, List.set_cons_succ]
            refine take_at (i := 10) 39 undef rfl rfl (by kernel_rfl) (by kernel_rfl) (by kernel_rfl) (fun _ _ _ h => h) (.inr ⟨rfl, rfl⟩) BV.out ?_
            simp only [Act.put, List.setIfInBounds_toArray, List.set_cons_zero, List.set_cons_succ]
            refine take_at (i := 11) 40 undef rfl rfl (by kernel_rfl) (by kernel_rfl) (by kernel_rfl) (fun _ _ _ h => h) (.inr ⟨rfl, rfl⟩) BV.out ?_
            simp only [Act.put, List.setIfInBounds_toArray, List.set_cons_zero, List.set_cons_succ]
            refine take_at (i := 12) 41 undef rfl rfl (by kernel_rfl) (by kernel_rfl) (by kernel_rfl) (fun _ _ _ h => h) (.inr ⟨rfl, rfl⟩) BV.out ?_
            simp only [Act.put, List.setIfInBounds_toArray, List.set_cons_zero, List.set_cons_succ]
            refine take_at (i := 13) 42 undef rfl rfl (by kernel_rfl) (by kernel_rfl) (by kernel_rfl) (fun _ _ _ h => h) (.inr ⟨rfl, rfl⟩) BV.out ?_
            simp only [Act.put, List.setIfInBounds_toArray, List.set_cons_zero, List.set_cons_succ]
            refine take_at (i := 14) 43 ?_ rfl rfl (by kernel_rfl) (by kernel_rfl) (by kernel_rfl) (fun _ _ _ h => h) (.inl ⟨rfl, ?_⟩) BV.out ?_
            rotate_left 1
            · intro w hSw; go_simp; try with_reducible rfl
            simp only [Act.put, List.setIfInBounds_toArray, List.set_cons_zero, List.set_cons_succ]
            refine take_at (i := 15) 44 ?_ rfl rfl (by kernel_rfl) (by kernel_rfl) (by kernel_rfl) (fun _ _ _ h => h) (.inl ⟨rfl, ?_⟩) BV.out ?_
            rotate_left 1
            · intro w hSw; go_simp; try with_reducible rfl
            simp only [Act.put, List.setIfInBounds_toArray, List.set_cons_zero, List.set_cons_succ]
            refine take_at (i := 16) 45 undef rfl rfl (by kernel_rfl) (by kernel_rfl) (by kernel_rfl) (fun _ _ _ h => h) (.inr ⟨rfl, rfl⟩) BV.out ?_
            simp only [Act.put, List.setIfInBounds_toArray, List.set_cons_zero, List.set_cons_succ]
            refine take_at (i := 17) 46 undef rfl rfl (by kernel_rfl) (by kernel_rfl) (by kernel_rfl) (fun _ _ _ h => h) (.inr ⟨rfl, rfl⟩) BV.out ?_
            simp only [Act.put, List.setIfInBounds_toArray, List.set_cons_zero, List.set_cons_succ]
            refine take_at (i := 18) 47 undef rfl rfl (by kernel_rfl) (by kernel_rfl) (by kernel_rfl) (fun _ _ _ h => h) (.inr ⟨rfl, rfl⟩) BV.out ?_
            simp only [Act.put, List.setIfInBounds_toArray, List.set_cons_zero, List.set_cons_succ]
            refine take_at (i := 19) 48 undef rfl rfl (by kernel_rfl) (by kernel_rfl) (by kernel_rfl) (fun _ _ _ h => h) (.inr ⟨rfl, rfl⟩) BV.out ?_
            simp only [Act.put, List.setIfInBounds_toArray, List.set_cons_zero, List.set_cons_succ]
            refine take_at (i := 20) 49 undef rfl rfl (by kernel_rfl) (by kernel_rfl) (by kernel_rfl) (fun _ _ _ h => h) (.inr ⟨rfl, rfl⟩) BV.out ?_
            simp only [Act.put, List.setIfInBounds_toArray, List.set_cons_zero, List.set_cons_succ]
            refine take_at (i := 21) 50 undef rfl rfl (by kernel_rfl) (by kernel_rfl) (by kernel_rfl) (fun _ _ _ h => h) (.inr ⟨rfl, rfl⟩) BV.out ?_
            simp only [Act.put, List.setIfInBounds_toArray, List.set_cons_zero, List.set_cons_succ]
            refine take_at (i := 22) 51 undef rfl rfl (by kernel_rfl) (by kernel_rfl) (by kernel_rfl) (fun _ _ _ h => h) (.inr ⟨rfl, rfl⟩) BV.out ?_
            simp only [Act.put, List.setIfInBounds_toArray, List.set_cons_zero, List.set_cons_succ]
            refine take_at (i := 23) 52 undef rfl rfl (by kernel_rfl) (by kernel_rfl) (by kernel_rfl) (fun _ _ _ h => h) (.inr ⟨rfl, rfl⟩) BV.out ?_
            simp only [Act.put, List.setIfInBounds_toArray, List.set_cons_zero, List.set_cons_succ]
            refine take_at (i := 24) 53 ?_ rfl rfl (by kernel_rfl) (by kernel_rfl) (by kernel_rfl) (fun _ _ _ h => h) (.inl ⟨rfl, ?_⟩) BV.out ?_
            rotate_left 1
            · intro w hSw; go_simp; try with_reducible rfl
            simp only [Act.put, List.setIfInBounds_toArray, List.set_cons_zero, List.set_cons_succ]
            refine take_at (i := 25) 54 ?_ rfl rfl (by kernel_rfl) (by kernel_rfl) (by kernel_rfl) (fun _ _ _ h => h) (.inl ⟨rfl, ?_⟩) BV.out ?_
            rotate_left 1
            · intro w hSw; go_simp; try with_reducible rfl
            simp only [Act.put, List.setIfInBounds_toArray, List.set_cons_zero, List.set_cons_succ]
            refine take_at (i := 26) 55 undef rfl rfl (by kernel_rfl) (by kernel_rfl) (by kernel_rfl) (fun _ _ _ h => h) (.inr ⟨rfl, rfl⟩) BV.out ?_
            simp only [Act.put, List.setIfInBounds_toArray, List.set_cons_zero, List.set_cons_succ]
            refine take_at (i := 27) 56 undef rfl rfl (by kernel_rfl) (by kernel_rfl) (by kernel_rfl) (fun _ _ _ h => h) (.inr ⟨rfl, rfl⟩) BV.out ?_
            simp only [Act.put, List.setIfInBounds_toArray, List.set_cons_zero, List.set_cons_succ]
            refine take_at (i := 28) 57 undef rfl rfl (by kernel_rfl) (by kernel_rfl) (by kernel_rfl) (fun _ _ _ h => h) (.inr ⟨rfl, rfl⟩) BV.out ?_
            simp only [Act.put, List.setIfInBounds_toArray, List.set_cons_zero, List.set_cons_succ]
            refine take_at (i := 29) 58 undef rfl rfl (by kernel_rfl) (by kernel_rfl) (by kernel_rfl) (fun _ _ _ h => h) (.inr ⟨rfl, rfl⟩) BV.out ?_
            simp only [Act.put, List.setIfInBounds_toArray, List.set_cons_zero, List.set_cons_succ]
            refine take_at (i := 30) 59 undef rfl rfl (by kernel_rfl) (by kernel_rfl) (by kernel_rfl) (fun _ _ _ h => h) (.inr ⟨rfl, rfl⟩) BV.out ?_
            simp only [Act.put, List.setIfInBounds_toArray, List.set_cons_zero, List.set_cons_succ]
            refine take_at (i := 31) 60 undef rfl rfl (by kernel_rfl) (by kernel_rfl) (by kernel_rfl) (fun _ _ _ h => h) (.inr ⟨rfl, rfl⟩) BV.out ?_
            simp only [Act.put, List.setIfInBounds_toArray, List.set_cons_zero, List.set_cons_succ]
            refine take_at (i := 32) 61 undef rfl rfl (by kernel_rfl) (by kernel_rfl) (by kernel_rfl) (fun _ _ _ h => h) (.inr ⟨rfl, rfl⟩) BV.out ?_
            simp only [Act.put, List.setIfInBounds_toArray, List.set_cons_zero, List.set_cons_succ]
            refine take_at (i := 33) 62 undef rfl rfl (by kernel_rfl) (by kernel_rfl) (by kernel_rfl) (fun _ _ _ h => h) (.inr ⟨rfl, rfl⟩) BV.out ?_
            simp only [Act.put, List.setIfInBounds_toArray, List.set_cons_zero, List.set_cons_succ]
            refine take_at (i := 34) 63 ?_ rfl rfl (by kernel_rfl) (by kernel_rfl) (by kernel_rfl) (fun _ _ _ h => h) (.inl ⟨rfl, ?_⟩) BV.out ?_
            rotate_left 1
            · intro w hSw; go_simp; try with_reducible rfl
            simp only [Act.put, List.setIfInBounds_toArray, List.set_cons_zero, List.set_cons_succ]
            refine wpAnyH_done (by kernel_rfl) ?_ _
            rw [HWD.out]
            go_wp2
            go_roundw
            case rel => exact ⟨k + 1, ds, by go_num, by omega, by first | trivial | rfl, by rw [HN.out]; omega, E, TD⟩
            case measure => simp [intOf]; omega
        · have E := Lib.hid (show ds = ((rs.take (i + 1)).flatMap (partR l)).take M by
            have h1 := HD.out
            rw [List.take_of_length_le (show l.length ≤ k by omega)] at h1
            rw [HTK.out, List.flatMap_append, h1]
            simp [partR])
          have hdl2 : ds.length ≤ (i + 1) * 2600 := by omega
          clear HD
          go_wp2
          go_roundw
          case rel => exact ⟨i + 1, ds, by go_num, by omega, by first | trivial | rfl, hdl2, E, HX⟩
          case measure => simp [intOf]; omega
    · have E := Lib.hid (show cs = takeR l rs most by
        have h1 := HC.out
        rw [List.take_of_length_le (Nat.le_of_not_lt hlt)] at h1
        unfold takeR
        rw [HM.out]
        exact h1)
      go_wp2
      go_returns
      refine ⟨_, rfl, ?_, HT.out.bel⟩
      rw [← E.out]
      exact Ve.own_less HT.out.row (Nat.le_succ _)
end Go.Proofs.YtgnnpfainoppeaaDoor

set_option linter.unusedVariables false
set_option linter.unusedSimpArgs false
set_option maxRecDepth 100000
namespace Go.Proofs.YtgnnpfainoppeaaDoor
open Go.RowKit
open Ve (zs zs_len vw va RightP madeF LiesO Rg LiesR)

theorem HK.le {w : World} {B B' b : Nat} {s : HS} (h : HK w B b s) (hB : B' ≤ B) : HK w B' b s := ⟨h.box, Nat.le_trans hB h.bd, h.len, fun i hi => Ve.own_less (h.rows i hi) hB, h.far⟩
theorem ix23 {g o n cap i : Nat} (h : i < n) (hn : n ≤ 9223372036854775807) (W : World) : (Instr.indexAt 23 (.slice (some ⟨g, o, none⟩) n cap) (.int .i64 (i : Int))).run Tryd.prog W = .ok (pvo g (o + i * 11)) W := by
  have h0 : (0 : Int) ≤ (i : Int) := by omega
  have h1 : (i : Int) < (n : Int) := by omega
  go_simp
theorem long_size' {l : List Ac} (h : longB l = false) {i : Nat} (hi : i < 40) {p : Ac} (hp : l[i]? = some p) : p.o.nm.size ≤ 300 := by
  have := List.any_eq_false.1 h p (List.mem_iff_getElem?.2 ⟨i, by rw [List.getElem?_take, if_pos hi, hp]⟩)
  simpa using this
theorem made_len (l : List (Nat × Int)) : (madeF l).length = 64 := by unfold madeF; rw [Ve.foldO_len, zs_len]
theorem PM.take {w0 w : World} {b g m : Nat} {bh br : List Int} {Lh Lr : Nat → List O} {v : Value} (h : PM w0 w b g bh Lh br Lr v) (gd : Gd bh Lh m) (hm : m ≤ 1000) (rv : Value) (rs : List Rg) (hv : LiesR w rv rs) (most : Int) (hmost : most ≤ 9223372036854775807) :
    Calls Tryd.prog 20 #[pv b, rv, .int .i64 most] w fun e w' => ∃ r, e = .returned r ∧ RowO w w' r (takeF Lh rs most) := by
  obtain ⟨h0, h1, ⟨s, k1, k2, rfl, rfl, k5, k6⟩, h3, h4, h5⟩ := h
  exact take_any w w0.heap.size b s m k1 gd hm rv rs hv most hmost
set_option maxHeartbeats 12800000 in
theorem takes_law (w : World) (v wv : Value) (l : List Ac) (rs : List Rg) (most : Int) (h : ALies w v l) (hw : LiesR w wv rs ∨ (∃ ao cap n, wv = .slice ao n cap ∧ 20 < n ∧ n ≤ 9223372036854775807)) (hmost : most ≤ 9223372036854775807) (ht : Ve.Tab w) :
    Calls Tryd.prog 4 #[v, wv, .int .i64 most] w fun e w' => e = .returned (.bool true) ∧ Below w.heap.size w w' := by
  have H := Lib.hid h
  have LG := Lib.hid (long_any w v l h)
  have AW := Lib.hid (fun W (hb : Below w.heap.size w W) => awake_any W (Ve.tab_later ht hb))
  have hl : l.length ≤ 9223372036854775807 := by obtain ⟨_, _, _, h, _⟩ := h; exact h
  obtain ⟨ao, cap, rfl⟩ : ∃ ao cap, v = .slice ao l.length cap := by obtain ⟨ao, cap, e, _⟩ := h; exact ⟨ao, cap, e⟩
  obtain ⟨wo, wn, wc, rfl⟩ : ∃ ao n cap, wv = .slice ao n cap := by
    rcases hw with ⟨ao, cap, e, _⟩ | ⟨ao, cap, n, e, _⟩
    · exact ⟨ao, _, cap, e⟩
    · exact ⟨ao, n, cap, e⟩
  have HWV := Lib.hid hw
  clear h ht hw
  cases hb : longB l with
  | true =>
    rw [hb] at LG
    clear hb
    go_enter Tryd.func4, Tryd.ntmps4
    go_wp2_with fail
    refine LG.out.mono ?_
    rintro e w1 ⟨rfl, rfl⟩
    have A1 := Lib.hid (AW.out w (Below.refl _ _))
    go_wp2_with fail
    refine A1.out.mono ?_
    rintro e w2 ⟨rfl, hb⟩
    have X := Lib.hid hb
    clear hb
    go_wp2
    go_returns
    exact ⟨rfl, X.out⟩
  | false =>
    rw [hb] at LG
    have NM := Lib.hid hb
    clear hb
    by_cases hbig : 20 < wn
    · have hbig2 : (20 : Int) < (wn : Int) := by omega
      go_enter Tryd.func4, Tryd.ntmps4
      go_wp2_with fail
      refine LG.out.mono ?_
      rintro e w1 ⟨rfl, rfl⟩
      have A1 := Lib.hid (AW.out w (Below.refl _ _))
      go_wp2_with fail
      refine A1.out.mono ?_
      rintro e w2 ⟨rfl, hb⟩
      have X := Lib.hid hb
      clear hb
      go_wp2
      go_returns
      exact ⟨rfl, X.out⟩
    · have hbig2 : ¬ (20 : Int) < (wn : Int) := by omega
      have hW : LiesR w (.slice wo wn wc) rs := by
        rcases HWV.out with h | ⟨ao, cap, n, e, h1, _⟩
        · exact h
        · injection e with e1 e2 e3; omega
      have hrn : rs.length = wn := by obtain ⟨_, _, e, _⟩ := hW; injection e with e1 e2 e3; exact e2.symm
      have HWL := Lib.hid hW
      have hrn2 : rs.length ≤ 30 := by omega
      have HRN := Lib.hid hrn2
      have BZ := Lib.hid (fun W => build_va W)
      have NW := Lib.hid (fun W => (show Calls Tryd.prog 10 #[.agg (va zs)] W fun e w' => ∃ b, e = .returned (.tuple #[pv b, .int .i64 0]) ∧ HK w' W.heap.size b (hs0 true zs) ∧ Below W.heap.size W w' from new_ok W zs zs_len right_zs))
      have GD0 := Lib.hid (gd_nil zs_len right_zs)
      clear hrn hrn2 hW HWV hbig
      go_enter Tryd.func4, Tryd.ntmps4
      go_wp2_with fail
      refine LG.out.mono ?_
      rintro e w1 ⟨rfl, rfl⟩
      go_wp2_with (first | refine wpList_build_arr rfl 27 rfl _ (BZ.out _) ?_)
      refine (NW.out _).mono ?_
      rintro e w4 ⟨b, rfl, hk4, hb4⟩
      have HK4 := Lib.hid hk4
      have X4 := Lib.hid hb4
      have A12 := Lib.hid (alloc36 w4)
      have N12 : RBx (w4.alloc (.cells (rva zs (.slice none 0 0)) 36)) w4.heap.size zs (.slice none 0 0) := heap_alloc_new w4 _
      have B12 := vstep w4 (.cells (rva zs (.slice none 0 0)) 36)
      obtain ⟨w6, hw6⟩ : ∃ z, w4.alloc (.cells (rva zs (.slice none 0 0)) 36) = z := ⟨_, rfl⟩
      rw [hw6] at A12 B12 N12
      have P0 := Lib.hid (show PM w w6 b w4.heap.size zs nilL zs nilL (.slice none 0 0) from ⟨X4.out.trans (B12.mono X4.out.size), X4.out.size, ⟨hs0 true zs, HK4.out.step B12, rfl, rfl, rfl, (fun q => by
        rcases q with q | ⟨i, _, e⟩
        · have := HK4.out.blt; omega
        · cases e), fun k e => by cases e⟩, N12, by rw [flat_nil]; exact World.ownsRow_nil _ _ _ _, fun e => by cases e⟩)
      obtain ⟨g, hg⟩ : ∃ z, w4.heap.size = z := ⟨_, rfl⟩
      rw [hg] at P0 A12
      clear hk4 hb4 NW B12 N12 hw6 hg HK4 X4 LG BZ
      go_wp2_with (first | (refine Ve.wpList_alloc_arr rfl 36 rfl _ _ A12.out ?_; simp only [Act.put, List.setIfInBounds_toArray, List.set_cons_zero, List.set_cons_succ]))
      clear A12
      go_loopw [10] (fun iv wr => ∃ i : Nat, iv = .int .i64 i ∧ i ≤ l.length ∧ i ≤ 40 ∧ Hid (∃ bh Lh v, PM w wr b g bh Lh bh Lh v ∧ Gd bh Lh i)) (fun iv _ => 40 - (intOf iv).toNat)
      case atStart => exact ⟨0, rfl, Nat.zero_le _, Nat.zero_le _, Lib.hid ⟨zs, nilL, _, P0.out, GD0.out⟩⟩
      case round =>
        obtain ⟨i, rfl, hi, hi40, hI⟩ := hrel
        obtain ⟨bh, Lh, v, hP, hG⟩ := hI.out
        have P := Lib.hid hP
        have G := Lib.hid hG
        clear hP hG hI
        by_cases hlt : i < l.length ∧ i < 40
        · obtain ⟨hl1, hl2⟩ := hlt
          obtain ⟨p, hp⟩ : ∃ p, l[i]? = some p := ⟨_, List.getElem?_eq_getElem hl1⟩
          obtain ⟨ga, ka, rfl, d0, _, _⟩ := H.out.at P.out.bel hp
          have hi0 : (0 : Int) ≤ (i : Int) := by omega
          have hi1 : (i : Int) < (l.length : Int) := by omega
          obtain ⟨kd, hkd⟩ : ∃ kd, p.kd = kd := ⟨_, rfl⟩
          rw [hkd] at d0
          have HP := Lib.hid hp
          have IX := Lib.hid (fun W => ix23 (g := ga) (o := ka) (cap := cap) hl1 hl W)
          have ACT := Lib.hid (fun W (hb : Below w.heap.size w W) => (show (∀ j u, (oc p.o)[j]? = some u → W.cell? ⟨ga, ka + i * 11 + 1 + j, none⟩ = some u) ∧ W.cell? ⟨ga, ka + i * 11 + 10, none⟩ = some p.v from by
            obtain ⟨g', k', e, _, hc', hv'⟩ := H.out.at hb hp
            injection e with e; injection e with e1 e2; subst e1 e2
            exact ⟨hc', hv'⟩))
          have SZ := Lib.hid (show p.o.nm.size ≤ 1000000 by have := long_size' NM.out hl2 hp; omega)
          obtain ⟨A, hA⟩ : ∃ A, rva bh v = A := ⟨_, rfl⟩
          obtain ⟨OV, hOV⟩ : ∃ OV, oV p.o = OV := ⟨_, rfl⟩
          have HA := Lib.hid hA
          have HOV := Lib.hid hOV
          have VO := Lib.hid (own_olies P.out.row).one
          have HB64 := Lib.hid G.out.len
          have OL := Lib.hid (fun W (hb : Below wr.heap.size wr W) => own_olies (own_keep P.out.row hb))
          have TOP := Lib.hid (fun W (hb : Below wr.heap.size wr W) => P.out.bel.trans (hb.mono P.out.bel.size))
          have L12 := Lib.hid (fun W (hb : Below wr.heap.size wr W) => (show (Instr.loadAt 36 (.pointer (some ⟨g, 0, none⟩))).run Tryd.prog W = .ok (.agg A) W by rw [← HA.out]; exact (P.out.ref.step hb).ldR HB64.out))
          have LOV0 := Lib.hid (fun W (hb : Below w.heap.size w W) => (show (Instr.loadAt 40 (.pointer (some ⟨ga, ka + i * 11 + 1, none⟩))).run Tryd.prog W = .ok OV W by rw [← HOV.out]; exact ldO (ACT.out W hb).1))
          have LOV := Lib.hid (fun W (hb : Below wr.heap.size wr W) => LOV0.out W (TOP.out W hb))
          clear hkd hp
          by_cases k4 : kd = 4
          · subst k4
            have LS := Lib.hid (show LiesO w p.v p.vl by obtain ⟨_, _, _, _, _, _, hm⟩ := H.out; exact hm p (List.mem_iff_getElem?.2 ⟨i, HP.out⟩))
            obtain ⟨vt, hvt⟩ : ∃ vt, madeF p.vl = vt := ⟨_, rfl⟩
            have hvl : vt.length = 64 := by rw [← hvt]; exact made_len _
            obtain ⟨VT, hVT⟩ : ∃ VT, va vt = VT := ⟨_, rfl⟩
            have MDL := Lib.hid (fun W (hb : Below w.heap.size w W) => (show Calls Tryd.prog 9 #[p.v] W fun e w' => e = .returned (.agg VT) ∧ Below W.heap.size W w' by rw [← hVT, ← hvt]; exact Ve.Made_any W p.v p.vl (LiesO.step LS.out hb)))
            have MDW := Lib.hid (fun W (hb : Below wr.heap.size wr W) => MDL.out W (TOP.out W hb))
            have LPV0 := Lib.hid (fun W (hb : Below w.heap.size w W) => (show (Instr.loadAt 22 (.pointer (some ⟨ga, ka + i * 11 + 10, none⟩))).run Tryd.prog W = .ok p.v W from ldV22 (ACT.out W hb).2))
            have LPV := Lib.hid (fun W (hb : Below wr.heap.size wr W) => LPV0.out W (TOP.out W hb))
            have LST0 := Lib.hid (fun W (hb : Below w.heap.size w W) => (show (Instr.loadAt 38 (.pointer (some ⟨ga, ka + i * 11 + 1, none⟩))).run Tryd.prog W = .ok (.agg #[.int .i64 p.o.t, .int .i64 p.o.r]) W from ldS38 ((ACT.out W hb).1 0 _ rfl) ((ACT.out W hb).1 1 _ rfl)))
            have LST := Lib.hid (fun W (hb : Below wr.heap.size wr W) => LST0.out W (TOP.out W hb))
            obtain ⟨ft, hft⟩ : ∃ ft, p.o.t = ft := ⟨_, rfl⟩
            obtain ⟨fr, hfr⟩ : ∃ fr, p.o.r = fr := ⟨_, rfl⟩
            rw [hft, hfr] at LST LST0
            have RTC := Lib.hid (fun W (hb : Below wr.heap.size wr W) => rtrim_go G.out (by omega) W (OL.out W hb) vt hvl ft fr v)
            have HTC := Lib.hid (fun W v5 (h : PM w W b g bh Lh (trB vt ft fr Lh bh 64) (trL vt ft fr Lh) v5) => h.trim G.out (by omega) vt hvl ft fr)
            have GT := Lib.hid (G.out.trim vt ft fr)
            unfold vw at HTC
            rw [hVT] at HTC RTC
            rw [HA.out] at RTC
            obtain ⟨bt, hbt⟩ : ∃ bt, trB vt ft fr Lh bh 64 = bt := ⟨_, rfl⟩
            obtain ⟨Lt, hLt⟩ : ∃ Lt, trL vt ft fr Lh = Lt := ⟨_, rfl⟩
            obtain ⟨nt, hnt⟩ : ∃ nt, trN vt ft fr Lh 64 = nt := ⟨_, rfl⟩
            rw [hbt, hLt, hnt] at RTC HTC
            rw [hbt, hLt] at GT
            have HTB := Lib.hid GT.out.len
            clear hA hOV hvt hVT hvl hbt hLt hnt hft hfr LS LOV LOV0
            go_wp2_with fail
            go_cut [11, 12] from 46 to 62 (fun s11 s12 wq => ∃ k14 v5, s11 = pvo k14 0 ∧ s12 = .int .i64 nt ∧ Hid (Aft23 wr wq bt (flat Lt) k14 v5))
            case first =>
              refine wp_region_held_drew (S := fun w' => Below wr.heap.size wr w') (by kernel_rfl) (Below.refl _ _).drew (fun hHeld => ?_)
              obtain ⟨wd, hwd⟩ : ∃ z, wr.drew = z := ⟨_, rfl⟩
              have BV := Lib.hid (show Below wr.heap.size wr wd by rw [← hwd]; exact (Below.refl _ _).drew)
              rw [hwd]
              clear hHeld hwd
              refine take_at (i := 0) 47 (.agg A) rfl rfl (by kernel_rfl) (by kernel_rfl) (by kernel_rfl) (fun _ _ _ h => h) (yields_ld (.tmp 9) 36 (pvo g 0) (.agg A) (fun W h => L12.out W h) rfl rfl rfl) BV.out ?_
              simp only [Act.put, List.setIfInBounds_toArray, List.set_cons_zero, List.set_cons_succ]
              refine take_at (i := 1) 48 ?_ rfl rfl (by kernel_rfl) (by kernel_rfl) (by kernel_rfl) (fun _ _ _ h => h) (.inl ⟨rfl, ?_⟩) BV.out ?_
              rotate_left 1
              · intro w hSw; go_simp; try with_reducible rfl
              simp only [Act.put, List.setIfInBounds_toArray, List.set_cons_zero, List.set_cons_succ]
              refine take_at (i := 2) 49 ?_ rfl rfl (by kernel_rfl) (by kernel_rfl) (by kernel_rfl) (fun _ _ _ h => h) (.inl ⟨rfl, ?_⟩) BV.out ?_
              rotate_left 1
              · intro w hSw; go_simp; try with_reducible rfl
              simp only [Act.put, List.setIfInBounds_toArray, List.set_cons_zero, List.set_cons_succ]
              refine take_at (i := 3) 50 (pvo ga (ka + i * 11)) rfl rfl (by kernel_rfl) (by kernel_rfl) (by kernel_rfl) (fun _ _ _ h => h) (yields_ixp (.tmp 48) (.tmp 49) 23 (.slice (some ⟨ga, ka, none⟩) l.length cap) (.int .i64 (i : Int)) _ (fun W => IX.out W) rfl rfl rfl rfl) BV.out ?_
              simp only [Act.put, List.setIfInBounds_toArray, List.set_cons_zero, List.set_cons_succ]
              refine take_at (i := 4) 51 ?_ rfl rfl (by kernel_rfl) (by kernel_rfl) (by kernel_rfl) (fun _ _ _ h => h) (.inl ⟨rfl, ?_⟩) BV.out ?_
              rotate_left 1
              · intro w hSw; go_simp; try with_reducible rfl
              simp only [Act.put, List.setIfInBounds_toArray, List.set_cons_zero, List.set_cons_succ]
              refine take_at (i := 5) 52 (p.v) rfl rfl (by kernel_rfl) (by kernel_rfl) (by kernel_rfl) (fun _ _ _ h => h) (yields_ld (.tmp 51) 22 (pvo ga (ka + i * 11 + 10)) (p.v) (fun W h => LPV.out W h) rfl rfl rfl) BV.out ?_
              simp only [Act.put, List.setIfInBounds_toArray, List.set_cons_zero, List.set_cons_succ]
              refine take_at (i := 7) 54 ?_ rfl rfl (by kernel_rfl) (by kernel_rfl) (by kernel_rfl) (fun _ _ _ h => h) (.inl ⟨rfl, ?_⟩) BV.out ?_
              rotate_left 1
              · intro w hSw; go_simp; try with_reducible rfl
              simp only [Act.put, List.setIfInBounds_toArray, List.set_cons_zero, List.set_cons_succ]
              refine take_at (i := 8) 55 ?_ rfl rfl (by kernel_rfl) (by kernel_rfl) (by kernel_rfl) (fun _ _ _ h => h) (.inl ⟨rfl, ?_⟩) BV.out ?_
              rotate_left 1
              · intro w hSw; go_simp; try with_reducible rfl
              simp only [Act.put, List.setIfInBounds_toArray, List.set_cons_zero, List.set_cons_succ]
              refine take_at (i := 9) 56 (pvo ga (ka + i * 11)) rfl rfl (by kernel_rfl) (by kernel_rfl) (by kernel_rfl) (fun _ _ _ h => h) (yields_ixp (.tmp 54) (.tmp 55) 23 (.slice (some ⟨ga, ka, none⟩) l.length cap) (.int .i64 (i : Int)) _ (fun W => IX.out W) rfl rfl rfl rfl) BV.out ?_
              simp only [Act.put, List.setIfInBounds_toArray, List.set_cons_zero, List.set_cons_succ]
              refine take_at (i := 10) 57 ?_ rfl rfl (by kernel_rfl) (by kernel_rfl) (by kernel_rfl) (fun _ _ _ h => h) (.inl ⟨rfl, ?_⟩) BV.out ?_
              rotate_left 1
              · intro w hSw; go_simp; try with_reducible rfl
              simp only [Act.put, List.setIfInBounds_toArray, List.set_cons_zero, List.set_cons_succ]
              refine take_at (i := 11) 58 ?_ rfl rfl (by kernel_rfl) (by kernel_rfl) (by kernel_rfl) (fun _ _ _ h => h) (.inl ⟨rfl, ?_⟩) BV.out ?_
              rotate_left 1
              · intro w hSw; go_simp; try with_reducible rfl
              simp only [Act.put, List.setIfInBounds_toArray, List.set_cons_zero, List.set_cons_succ]
              refine take_at (i := 12) 59 (.agg #[.int .i64 ft, .int .i64 fr]) rfl rfl (by kernel_rfl) (by kernel_rfl) (by kernel_rfl) (fun _ _ _ h => h) (yields_ld (.tmp 58) 38 (pvo ga (ka + i * 11 + 1)) (.agg #[.int .i64 ft, .int .i64 fr]) (fun W h => LST.out W h) rfl rfl rfl) BV.out ?_
              simp only [Act.put, List.setIfInBounds_toArray, List.set_cons_zero, List.set_cons_succ]
              refine wpAnyH_ready (rs := [6, 17]) (by kernel_rfl) (by simp) (br_call (i := 6) 53 9 #[p.v] rfl rfl rfl (by go_simp) ((MDW.out _ BV.out).mono ?_) (br_alloc (i := 17) 11 36 (pvo wd.heap.size 0) (wd.alloc (.cells (rva zs (.slice none 0 0)) 36)) rfl rfl rfl rfl (alloc36 wd) (BV.out.trans ((vstep wd _).mono BV.out.size)) (fun _ => ?_) AllReadyH.nil))
              · rintro e w4 ⟨rfl, hb4⟩
                have BV := Lib.hid (BV.out.trans (hb4.mono BV.out.size))
                clear hb4
                refine ⟨_, rfl, BV.out, fun _ => ?_⟩
                simp only [Act.put, List.setIfInBounds_toArray, List.set_cons_zero, List.set_cons_succ]
                refine wpAnyH_ready (rs := [13, 17]) (by kernel_rfl) (by simp) (br_call (i := 13) 60 14 #[.agg A, .agg VT, .agg #[.int .i64 ft, .int .i64 fr]] rfl rfl rfl (by go_simp) ((RTC.out _ BV.out).mono ?_) (br_alloc (i := 17) 11 36 (pvo w4.heap.size 0) (w4.alloc (.cells (rva zs (.slice none 0 0)) 36)) rfl rfl rfl rfl (alloc36 w4) (BV.out.trans ((vstep w4 _).mono BV.out.size)) (fun _ => ?_) AllReadyH.nil))
                · rintro e w5 ⟨v5, rfl, hc5, hb5⟩
                  have BC := Lib.hid BV.out
                  have H5 := Lib.hid hc5
                  have B5 := Lib.hid hb5
                  have BV := Lib.hid (BV.out.trans (hb5.mono BV.out.size))
                  clear hb5 hc5
                  refine ⟨_, rfl, BV.out, fun _ => ?_⟩
                  simp only [Act.put, List.setIfInBounds_toArray, List.set_cons_zero, List.set_cons_succ]
                  refine take_at (i := 14) 46 ?_ rfl rfl (by kernel_rfl) (by kernel_rfl) (by kernel_rfl) (fun _ _ _ h => h) (.inl ⟨rfl, ?_⟩) BV.out ?_
                  rotate_left 1
                  · intro w hSw; go_simp; try with_reducible rfl
                  simp only [Act.put, List.setIfInBounds_toArray, List.set_cons_zero, List.set_cons_succ]
                  refine take_at (i := 15) 61 ?_ rfl rfl (by kernel_rfl) (by kernel_rfl) (by kernel_rfl) (fun _ _ _ h => h) (.inl ⟨rfl, ?_⟩) BV.out ?_
                  rotate_left 1
                  · intro w hSw; go_simp; try with_reducible rfl
                  simp only [Act.put, List.setIfInBounds_toArray, List.set_cons_zero, List.set_cons_succ]
                  refine take_at (i := 16) 62 ?_ rfl rfl (by kernel_rfl) (by kernel_rfl) (by kernel_rfl) (fun _ _ _ h => h) (.inl ⟨rfl, ?_⟩) BV.out ?_
                  rotate_left 1
                  · intro w hSw; go_simp; try with_reducible rfl
                  simp only [Act.put, List.setIfInBounds_toArray, List.set_cons_zero, List.set_cons_succ]
                  refine wpAnyH_ready (rs := [17]) (by kernel_rfl) (by simp) (br_alloc (i := 17) 11 36 (pvo w5.heap.size 0) (w5.alloc (.cells (rva zs (.slice none 0 0)) 36)) rfl rfl rfl rfl (alloc36 w5) (BV.out.trans ((vstep w5 _).mono BV.out.size)) (fun _ => ?_) AllReadyH.nil)
                  have N14 := Lib.hid (show RBx (w5.alloc (.cells (rva zs (.slice none 0 0)) 36)) w5.heap.size zs (.slice none 0 0) from heap_alloc_new w5 _)
                  have KW := Lib.hid (show wr.heap.size ≤ w5.heap.size from BV.out.size)
                  have VS := Lib.hid (vstep w5 (.cells (rva zs (.slice none 0 0)) 36))
                  have KG := Lib.hid (show w5.heap.size < (w5.alloc (.cells (rva zs (.slice none 0 0)) 36)).heap.size by simp)
                  obtain ⟨hs, ha⟩ := aft23 HTB.out BC.out (B5.out.trans (VS.out.mono B5.out.size)) KW.out N14.out (h5b VS.out H5.out)
                  have HS := Lib.hid hs
                  have AF := Lib.hid ha
                  clear hs ha
                  have BV := Lib.hid (BV.out.trans (VS.out.mono BV.out.size))
                  obtain ⟨wn, hwn⟩ : ∃ z, w5.alloc (.cells (rva zs (.slice none 0 0)) 36) = z := ⟨_, rfl⟩
                  obtain ⟨k14, hk14⟩ : ∃ z, w5.heap.size = z := ⟨_, rfl⟩
                  rw [hk14] at N14 KW KG HS AF ⊢
                  rw [hwn] at N14 VS BV KG HS AF ⊢
                  clear hwn hk14
                  simp only [Act.put, List.setIfInBounds_toArray, List.set_cons_zero, List.set_cons_succ]
                  refine wpAnyH_ready (rs := [18]) (by kernel_rfl) (by simp) (br_store (i := 18) 36 (.tmp 11) (.tmp 61) _ _ _ rfl rfl rfl rfl rfl rfl HS.out AF.out.2.1 (fun _ => ?_) AllReadyH.nil)
                  have BV := Lib.hid AF.out.2.1
                  simp only [Act.put, List.setIfInBounds_toArray, List.set_cons_zero, List.set_cons_succ]
                  refine take_at (i := 19) 12 ?_ rfl rfl (by kernel_rfl) (by kernel_rfl) (by kernel_rfl) (fun _ _ _ h => h) (.inl ⟨rfl, ?_⟩) BV.out ?_
                  rotate_left 1
                  · intro w hSw; go_simp; try with_reducible rfl
                  simp only [Act.put, List.setIfInBounds_toArray, List.set_cons_zero, List.set_cons_succ]
                  refine wpAnyH_done (by kernel_rfl) ?_ _
                  go_wp2_with fail
                  go_meet
                  exact ⟨_, _, rfl, rfl, AF⟩
                · have N14 := Lib.hid (show RBx (w4.alloc (.cells (rva zs (.slice none 0 0)) 36)) w4.heap.size zs (.slice none 0 0) from heap_alloc_new w4 _)
                  have KW := Lib.hid (show wr.heap.size ≤ w4.heap.size from BV.out.size)
                  have VS := Lib.hid (vstep w4 (.cells (rva zs (.slice none 0 0)) 36))
                  have KG := Lib.hid (show w4.heap.size < (w4.alloc (.cells (rva zs (.slice none 0 0)) 36)).heap.size by simp)
                  have BV := Lib.hid (BV.out.trans (VS.out.mono BV.out.size))
                  obtain ⟨wn, hwn⟩ : ∃ z, w4.alloc (.cells (rva zs (.slice none 0 0)) 36) = z := ⟨_, rfl⟩
                  obtain ⟨k14, hk14⟩ : ∃ z, w4.heap.size = z := ⟨_, rfl⟩
                  rw [hk14] at N14 KW KG ⊢
                  rw [hwn] at N14 VS BV KG ⊢
                  clear hwn hk14
                  simp only [Act.put, List.setIfInBounds_toArray, List.set_cons_zero, List.set_cons_succ]
                  refine wpAnyH_ready (rs := [13]) (by kernel_rfl) (by simp) (br_call (i := 13) 60 14 #[.agg A, .agg VT, .agg #[.int .i64 ft, .int .i64 fr]] rfl rfl rfl (by go_simp) ((RTC.out _ BV.out).mono ?_) AllReadyH.nil)
                  rintro e w5 ⟨v5, rfl, hc5, hb5⟩
                  have KK := Lib.hid (show wr.heap.size ≤ k14 from KW.out)
                  obtain ⟨hs, ha⟩ := aft23 HTB.out BV.out hb5 KK.out (N14.out.step hb5) (h5a KG.out hc5)
                  have HS := Lib.hid hs
                  have AF := Lib.hid ha
                  clear hs ha
                  have BC := Lib.hid BV.out
                  have H5 := Lib.hid hc5
                  have B5 := Lib.hid hb5
                  have BV := Lib.hid (BV.out.trans (hb5.mono BV.out.size))
                  clear hb5 hc5
                  refine ⟨_, rfl, BV.out, fun _ => ?_⟩
                  simp only [Act.put, List.setIfInBounds_toArray, List.set_cons_zero, List.set_cons_succ]
                  refine take_at (i := 14) 46 ?_ rfl rfl (by kernel_rfl) (by kernel_rfl) (by kernel_rfl) (fun _ _ _ h => h) (.inl ⟨rfl, ?_⟩) BV.out ?_
                  rotate_left 1
                  · intro w hSw; go_simp; try with_reducible rfl
                  simp only [Act.put, List.setIfInBounds_toArray, List.set_cons_zero, List.set_cons_succ]
                  refine take_at (i := 15) 61 ?_ rfl rfl (by kernel_rfl) (by kernel_rfl) (by kernel_rfl) (fun _ _ _ h => h) (.inl ⟨rfl, ?_⟩) BV.out ?_
                  rotate_left 1
                  · intro w hSw; go_simp; try with_reducible rfl
                  simp only [Act.put, List.setIfInBounds_toArray, List.set_cons_zero, List.set_cons_succ]
                  refine take_at (i := 16) 62 ?_ rfl rfl (by kernel_rfl) (by kernel_rfl) (by kernel_rfl) (fun _ _ _ h => h) (.inl ⟨rfl, ?_⟩) BV.out ?_
                  rotate_left 1
                  · intro w hSw; go_simp; try with_reducible rfl
                  simp only [Act.put, List.setIfInBounds_toArray, List.set_cons_zero, List.set_cons_succ]
                  refine wpAnyH_ready (rs := [18]) (by kernel_rfl) (by simp) (br_store (i := 18) 36 (.tmp 11) (.tmp 61) _ _ _ rfl rfl rfl rfl rfl rfl HS.out AF.out.2.1 (fun _ => ?_) AllReadyH.nil)
                  have BV := Lib.hid AF.out.2.1
                  simp only [Act.put, List.setIfInBounds_toArray, List.set_cons_zero, List.set_cons_succ]
                  refine take_at (i := 19) 12 ?_ rfl rfl (by kernel_rfl) (by kernel_rfl) (by kernel_rfl) (fun _ _ _ h => h) (.inl ⟨rfl, ?_⟩) BV.out ?_
                  rotate_left 1
                  · intro w hSw; go_simp; try with_reducible rfl
                  simp only [Act.put, List.setIfInBounds_toArray, List.set_cons_zero, List.set_cons_succ]
                  refine wpAnyH_done (by kernel_rfl) ?_ _
                  go_wp2_with fail
                  go_meet
                  exact ⟨_, _, rfl, rfl, AF⟩
              · have N14 := Lib.hid (show RBx (wd.alloc (.cells (rva zs (.slice none 0 0)) 36)) wd.heap.size zs (.slice none 0 0) from heap_alloc_new wd _)
                have KW := Lib.hid (show wr.heap.size ≤ wd.heap.size from BV.out.size)
                have VS := Lib.hid (vstep wd (.cells (rva zs (.slice none 0 0)) 36))
                have KG := Lib.hid (show wd.heap.size < (wd.alloc (.cells (rva zs (.slice none 0 0)) 36)).heap.size by simp)
                have BV := Lib.hid (BV.out.trans (VS.out.mono BV.out.size))
                obtain ⟨wn, hwn⟩ : ∃ z, wd.alloc (.cells (rva zs (.slice none 0 0)) 36) = z := ⟨_, rfl⟩
                obtain ⟨k14, hk14⟩ : ∃ z, wd.heap.size = z := ⟨_, rfl⟩
                rw [hk14] at N14 KW KG ⊢
                rw [hwn] at N14 VS BV KG ⊢
                clear hwn hk14
                simp only [Act.put, List.setIfInBounds_toArray, List.set_cons_zero, List.set_cons_succ]
                refine wpAnyH_ready (rs := [6]) (by kernel_rfl) (by simp) (br_call (i := 6) 53 9 #[p.v] rfl rfl rfl (by go_simp) ((MDW.out _ BV.out).mono ?_) AllReadyH.nil)
                rintro e w4 ⟨rfl, hb4⟩
                have BV := Lib.hid (BV.out.trans (hb4.mono BV.out.size))
                have N14 := Lib.hid (N14.out.step hb4)
                have KG := Lib.hid (Nat.lt_of_lt_of_le KG.out hb4.size)
                clear hb4
                refine ⟨_, rfl, BV.out, fun _ => ?_⟩
                simp only [Act.put, List.setIfInBounds_toArray, List.set_cons_zero, List.set_cons_succ]
                refine wpAnyH_ready (rs := [13]) (by kernel_rfl) (by simp) (br_call (i := 13) 60 14 #[.agg A, .agg VT, .agg #[.int .i64 ft, .int .i64 fr]] rfl rfl rfl (by go_simp) ((RTC.out _ BV.out).mono ?_) AllReadyH.nil)
                rintro e w5 ⟨v5, rfl, hc5, hb5⟩
                have KK := Lib.hid (show wr.heap.size ≤ k14 from KW.out)
                obtain ⟨hs, ha⟩ := aft23 HTB.out BV.out hb5 KK.out (N14.out.step hb5) (h5a KG.out hc5)
                have HS := Lib.hid hs
                have AF := Lib.hid ha
                clear hs ha
                have BC := Lib.hid BV.out
                have H5 := Lib.hid hc5
                have B5 := Lib.hid hb5
                have BV := Lib.hid (BV.out.trans (hb5.mono BV.out.size))
                clear hb5 hc5
                refine ⟨_, rfl, BV.out, fun _ => ?_⟩
                simp only [Act.put, List.setIfInBounds_toArray, List.set_cons_zero, List.set_cons_succ]
                refine take_at (i := 14) 46 ?_ rfl rfl (by kernel_rfl) (by kernel_rfl) (by kernel_rfl) (fun _ _ _ h => h) (.inl ⟨rfl, ?_⟩) BV.out ?_
                rotate_left 1
                · intro w hSw; go_simp; try with_reducible rfl
                simp only [Act.put, List.setIfInBounds_toArray, List.set_cons_zero, List.set_cons_succ]
                refine take_at (i := 15) 61 ?_ rfl rfl (by kernel_rfl) (by kernel_rfl) (by kernel_rfl) (fun _ _ _ h => h) (.inl ⟨rfl, ?_⟩) BV.out ?_
                rotate_left 1
                · intro w hSw; go_simp; try with_reducible rfl
                simp only [Act.put, List.setIfInBounds_toArray, List.set_cons_zero, List.set_cons_succ]
                refine take_at (i := 16) 62 ?_ rfl rfl (by kernel_rfl) (by kernel_rfl) (by kernel_rfl) (fun _ _ _ h => h) (.inl ⟨rfl, ?_⟩) BV.out ?_
                rotate_left 1
                · intro w hSw; go_simp; try with_reducible rfl
                simp only [Act.put, List.setIfInBounds_toArray, List.set_cons_zero, List.set_cons_succ]
                refine wpAnyH_ready (rs := [18]) (by kernel_rfl) (by simp) (br_store (i := 18) 36 (.tmp 11) (.tmp 61) _ _ _ rfl rfl rfl rfl rfl rfl HS.out AF.out.2.1 (fun _ => ?_) AllReadyH.nil)
                have BV := Lib.hid AF.out.2.1
                simp only [Act.put, List.setIfInBounds_toArray, List.set_cons_zero, List.set_cons_succ]
                refine take_at (i := 19) 12 ?_ rfl rfl (by kernel_rfl) (by kernel_rfl) (by kernel_rfl) (fun _ _ _ h => h) (.inl ⟨rfl, ?_⟩) BV.out ?_
                rotate_left 1
                · intro w hSw; go_simp; try with_reducible rfl
                simp only [Act.put, List.setIfInBounds_toArray, List.set_cons_zero, List.set_cons_succ]
                refine wpAnyH_done (by kernel_rfl) ?_ _
                go_wp2_with fail
                go_meet
                exact ⟨_, _, rfl, rfl, AF⟩
            case rest =>
              obtain ⟨k14, v5, rfl, rfl, hAF⟩ := hcut
              obtain ⟨l14, w8, s12, p8⟩ := P.out.go23 HB64.out HTB.out hAF.out
              obtain ⟨R5, hR5⟩ : ∃ R5, rva bt v5 = R5 := ⟨_, rfl⟩
              rw [hR5] at l14 s12
              have L14 := Lib.hid l14
              have S12 := Lib.hid s12
              have PX := Lib.hid p8
              clear l14 s12 p8 hR5 hAF RTC L12
              go_wp2_with (first | (refine wpList_ld rfl (.tmp 11) 36 rfl (pvo k14 0) (.agg R5) rfl L14.out ?_; simp only [Act.put, List.setIfInBounds_toArray, List.set_cons_zero, List.set_cons_succ]) | (refine Ve.wpList_store_arr rfl (.tmp 9) (.tmp 63) 36 rfl (pvo g 0) (.agg R5) rfl rfl _ S12.out ?_; simp only [Act.put, List.setIfInBounds_toArray, List.set_cons_zero, List.set_cons_succ]))
              refine wp_region_held_drew (S := fun w' => Below w.heap.size w w') (by kernel_rfl) PX.out.bel.drew (fun hHeld => ?_)
              have PX := Lib.hid (PX.out.step (Below.refl _ _).drew)
              have BV := Lib.hid PX.out.bel
              clear hHeld
              refine take_at (i := 0) 64 ?_ rfl rfl (by kernel_rfl) (by kernel_rfl) (by kernel_rfl) (fun _ _ _ h => h) (.inl ⟨rfl, ?_⟩) BV.out ?_
              rotate_left 1
              · intro w hSw; go_simp; try with_reducible rfl
              simp only [Act.put, List.setIfInBounds_toArray, List.set_cons_zero, List.set_cons_succ]
              refine take_at (i := 1) 65 ?_ rfl rfl (by kernel_rfl) (by kernel_rfl) (by kernel_rfl) (fun _ _ _ h => h) (.inl ⟨rfl, ?_⟩) BV.out ?_
              rotate_left 1
              · intro w hSw; go_simp; try with_reducible rfl
              simp only [Act.put, List.setIfInBounds_toArray, List.set_cons_zero, List.set_cons_succ]
              refine take_at (i := 2) 66 ?_ rfl rfl (by kernel_rfl) (by kernel_rfl) (by kernel_rfl) (fun _ _ _ h => h) (.inl ⟨rfl, ?_⟩) BV.out ?_
              rotate_left 1
              · intro w hSw; go_simp; try with_reducible rfl
              simp only [Act.put, List.setIfInBounds_toArray, List.set_cons_zero, List.set_cons_succ]
              refine take_at (i := 3) 67 (pvo ga (ka + i * 11)) rfl rfl (by kernel_rfl) (by kernel_rfl) (by kernel_rfl) (fun _ _ _ h => h) (yields_ixp (.tmp 65) (.tmp 66) 23 (.slice (some ⟨ga, ka, none⟩) l.length cap) (.int .i64 (i : Int)) _ (fun W => IX.out W) rfl rfl rfl rfl) BV.out ?_
              simp only [Act.put, List.setIfInBounds_toArray, List.set_cons_zero, List.set_cons_succ]
              refine take_at (i := 4) 68 ?_ rfl rfl (by kernel_rfl) (by kernel_rfl) (by kernel_rfl) (fun _ _ _ h => h) (.inl ⟨rfl, ?_⟩) BV.out ?_
              rotate_left 1
              · intro w hSw; go_simp; try with_reducible rfl
              simp only [Act.put, List.setIfInBounds_toArray, List.set_cons_zero, List.set_cons_succ]
              refine take_at (i := 5) 69 (p.v) rfl rfl (by kernel_rfl) (by kernel_rfl) (by kernel_rfl) (fun _ _ _ h => h) (yields_ld (.tmp 68) 22 (pvo ga (ka + i * 11 + 10)) (p.v) (fun W h => LPV0.out W h) rfl rfl rfl) BV.out ?_
              simp only [Act.put, List.setIfInBounds_toArray, List.set_cons_zero, List.set_cons_succ]
              refine take_at (i := 7) 71 ?_ rfl rfl (by kernel_rfl) (by kernel_rfl) (by kernel_rfl) (fun _ _ _ h => h) (.inl ⟨rfl, ?_⟩) BV.out ?_
              rotate_left 1
              · intro w hSw; go_simp; try with_reducible rfl
              simp only [Act.put, List.setIfInBounds_toArray, List.set_cons_zero, List.set_cons_succ]
              refine take_at (i := 8) 72 ?_ rfl rfl (by kernel_rfl) (by kernel_rfl) (by kernel_rfl) (fun _ _ _ h => h) (.inl ⟨rfl, ?_⟩) BV.out ?_
              rotate_left 1
              · intro w hSw; go_simp; try with_reducible rfl
              simp only [Act.put, List.setIfInBounds_toArray, List.set_cons_zero, List.set_cons_succ]
              refine take_at (i := 9) 73 (pvo ga (ka + i * 11)) rfl rfl (by kernel_rfl) (by kernel_rfl) (by kernel_rfl) (fun _ _ _ h => h) (yields_ixp (.tmp 71) (.tmp 72) 23 (.slice (some ⟨ga, ka, none⟩) l.length cap) (.int .i64 (i : Int)) _ (fun W => IX.out W) rfl rfl rfl rfl) BV.out ?_
              simp only [Act.put, List.setIfInBounds_toArray, List.set_cons_zero, List.set_cons_succ]
              refine take_at (i := 10) 74 ?_ rfl rfl (by kernel_rfl) (by kernel_rfl) (by kernel_rfl) (fun _ _ _ h => h) (.inl ⟨rfl, ?_⟩) BV.out ?_
              rotate_left 1
              · intro w hSw; go_simp; try with_reducible rfl
              simp only [Act.put, List.setIfInBounds_toArray, List.set_cons_zero, List.set_cons_succ]
              refine take_at (i := 11) 75 ?_ rfl rfl (by kernel_rfl) (by kernel_rfl) (by kernel_rfl) (fun _ _ _ h => h) (.inl ⟨rfl, ?_⟩) BV.out ?_
              rotate_left 1
              · intro w hSw; go_simp; try with_reducible rfl
              simp only [Act.put, List.setIfInBounds_toArray, List.set_cons_zero, List.set_cons_succ]
              refine take_at (i := 12) 76 (.agg #[.int .i64 ft, .int .i64 fr]) rfl rfl (by kernel_rfl) (by kernel_rfl) (by kernel_rfl) (fun _ _ _ h => h) (yields_ld (.tmp 75) 38 (pvo ga (ka + i * 11 + 1)) (.agg #[.int .i64 ft, .int .i64 fr]) (fun W h => LST0.out W h) rfl rfl rfl) BV.out ?_
              simp only [Act.put, List.setIfInBounds_toArray, List.set_cons_zero, List.set_cons_succ]
              refine wpAnyH_ready (rs := [6]) (by kernel_rfl) (by simp) (br_call (i := 6) 70 9 #[p.v] rfl rfl rfl (by go_simp) ((MDL.out _ BV.out).mono ?_) AllReadyH.nil)
              rintro e w8 ⟨rfl, hb8⟩
              have PX := Lib.hid (PX.out.step hb8)
              have BV := Lib.hid PX.out.bel
              clear hb8
              refine ⟨_, rfl, BV.out, fun _ => ?_⟩
              simp only [Act.put, List.setIfInBounds_toArray, List.set_cons_zero, List.set_cons_succ]
              refine wpAnyH_ready (rs := [13]) (by kernel_rfl) (by simp) (br_call (i := 13) 77 15 #[pv b, .agg VT, .agg #[.int .i64 ft, .int .i64 fr]] rfl rfl rfl (by go_simp) ((HTC.out _ _ PX.out).mono ?_) AllReadyH.nil)
              rintro e w9 ⟨rfl, Lt, hLt, h9⟩
              have LT := Lib.hid hLt
              have P9 := Lib.hid h9
              have BV := Lib.hid P9.out.bel
              clear h9 hLt
              refine ⟨_, rfl, BV.out, fun _ => ?_⟩
              simp only [Act.put, List.setIfInBounds_toArray, List.set_cons_zero, List.set_cons_succ]
              refine wpAnyH_done (by kernel_rfl) ?_ _
              have PF := Lib.hid (P9.out.congr LT.out)
              have GF := Lib.hid ((GT.out.congr LT.out).mono (Nat.le_succ _))
              clear P9 LT GT PX L14 S12
              go_wp2_with fail
              go_roundw
              case rel => exact ⟨i + 1, by go_num, by omega, by omega, Lib.hid ⟨_, _, _, PF.out, GF.out⟩⟩
              case measure => simp [intOf]; omega
          · have b4 := bneb_ kd 4 k4
            have RPC := Lib.hid (fun W (hb : Below wr.heap.size wr W) => (show Calls Tryd.prog 12 #[.agg A, OV] W fun e w' => ∃ v5, e = .returned (.tuple #[.agg (rva bh v5), .int .i64 (putI bh Lh p.o)]) ∧ ((v5 = v ∧ putL bh Lh p.o = Lh) ∨ w'.ownsRow W.heap.size 40 9 v5 (flat (putL bh Lh p.o)).length (cs9 (flat (putL bh Lh p.o)))) ∧ Below W.heap.size W w' by rw [← HA.out, ← HOV.out]; exact rput_any W bh Lh i G.out (by omega) v (OL.out W hb) p.o SZ.out))
            clear hA hOV k4
            go_wp2_with fail
            go_cut [13, 14] from 78 to 87 (fun s14 s15 wq => ∃ k14 v5, s14 = pvo k14 0 ∧ s15 = .int .i64 (putI bh Lh p.o) ∧ Hid (Aft18 wr wq bh Lh p.o v k14 v5))
            case first =>
              refine wp_region_held_drew (S := fun w' => Below wr.heap.size wr w') (by kernel_rfl) (Below.refl _ _).drew (fun hHeld => ?_)
              obtain ⟨wd, hwd⟩ : ∃ z, wr.drew = z := ⟨_, rfl⟩
              have BV := Lib.hid (show Below wr.heap.size wr wd by rw [← hwd]; exact (Below.refl _ _).drew)
              rw [hwd]
              clear hHeld hwd
              refine take_at (i := 0) 79 (.agg A) rfl rfl (by kernel_rfl) (by kernel_rfl) (by kernel_rfl) (fun _ _ _ h => h) (yields_ld (.tmp 9) 36 (pvo g 0) (.agg A) (fun W h => L12.out W h) rfl rfl rfl) BV.out ?_
              simp only [Act.put, List.setIfInBounds_toArray, List.set_cons_zero, List.set_cons_succ]
              refine take_at (i := 1) 80 ?_ rfl rfl (by kernel_rfl) (by kernel_rfl) (by kernel_rfl) (fun _ _ _ h => h) (.inl ⟨rfl, ?_⟩) BV.out ?_
              rotate_left 1
              · intro w hSw; go_simp; try with_reducible rfl
              simp only [Act.put, List.setIfInBounds_toArray, List.set_cons_zero, List.set_cons_succ]
              refine take_at (i := 2) 81 ?_ rfl rfl (by kernel_rfl) (by kernel_rfl) (by kernel_rfl) (fun _ _ _ h => h) (.inl ⟨rfl, ?_⟩) BV.out ?_
              rotate_left 1
              · intro w hSw; go_simp; try with_reducible rfl
              simp only [Act.put, List.setIfInBounds_toArray, List.set_cons_zero, List.set_cons_succ]
              refine take_at (i := 3) 82 (pvo ga (ka + i * 11)) rfl rfl (by kernel_rfl) (by kernel_rfl) (by kernel_rfl) (fun _ _ _ h => h) (yields_ixp (.tmp 80) (.tmp 81) 23 (.slice (some ⟨ga, ka, none⟩) l.length cap) (.int .i64 (i : Int)) _ (fun W => IX.out W) rfl rfl rfl rfl) BV.out ?_
              simp only [Act.put, List.setIfInBounds_toArray, List.set_cons_zero, List.set_cons_succ]
              refine take_at (i := 4) 83 ?_ rfl rfl (by kernel_rfl) (by kernel_rfl) (by kernel_rfl) (fun _ _ _ h => h) (.inl ⟨rfl, ?_⟩) BV.out ?_
              rotate_left 1
              · intro w hSw; go_simp; try with_reducible rfl
              simp only [Act.put, List.setIfInBounds_toArray, List.set_cons_zero, List.set_cons_succ]
              refine take_at (i := 5) 84 (OV) rfl rfl (by kernel_rfl) (by kernel_rfl) (by kernel_rfl) (fun _ _ _ h => h) (yields_ld (.tmp 83) 40 (pvo ga (ka + i * 11 + 1)) (OV) (fun W h => LOV.out W h) rfl rfl rfl) BV.out ?_
              simp only [Act.put, List.setIfInBounds_toArray, List.set_cons_zero, List.set_cons_succ]
              refine wpAnyH_ready (rs := [6, 10]) (by kernel_rfl) (by simp) (br_call (i := 6) 85 12 #[.agg A, OV] rfl rfl rfl (by go_simp) ((RPC.out _ BV.out).mono ?_) (br_alloc (i := 10) 13 36 (pvo wd.heap.size 0) (wd.alloc (.cells (rva zs (.slice none 0 0)) 36)) rfl rfl rfl rfl (alloc36 wd) (BV.out.trans ((vstep wd _).mono BV.out.size)) (fun _ => ?_) AllReadyH.nil))
              · rintro e w5 ⟨v5, rfl, hc5, hb5⟩
                have BC := Lib.hid BV.out
                have H5 := Lib.hid hc5
                have B5 := Lib.hid hb5
                have BV := Lib.hid (BV.out.trans (hb5.mono BV.out.size))
                clear hb5 hc5
                refine ⟨_, rfl, BV.out, fun _ => ?_⟩
                simp only [Act.put, List.setIfInBounds_toArray, List.set_cons_zero, List.set_cons_succ]
                refine take_at (i := 7) 78 ?_ rfl rfl (by kernel_rfl) (by kernel_rfl) (by kernel_rfl) (fun _ _ _ h => h) (.inl ⟨rfl, ?_⟩) BV.out ?_
                rotate_left 1
                · intro w hSw; go_simp; try with_reducible rfl
                simp only [Act.put, List.setIfInBounds_toArray, List.set_cons_zero, List.set_cons_succ]
                refine take_at (i := 8) 86 ?_ rfl rfl (by kernel_rfl) (by kernel_rfl) (by kernel_rfl) (fun _ _ _ h => h) (.inl ⟨rfl, ?_⟩) BV.out ?_
                rotate_left 1
                · intro w hSw; go_simp; try with_reducible rfl
                simp only [Act.put, List.setIfInBounds_toArray, List.set_cons_zero, List.set_cons_succ]
                refine take_at (i := 9) 87 ?_ rfl rfl (by kernel_rfl) (by kernel_rfl) (by kernel_rfl) (fun _ _ _ h => h) (.inl ⟨rfl, ?_⟩) BV.out ?_
                rotate_left 1
                · intro w hSw; go_simp; try with_reducible rfl
                simp only [Act.put, List.setIfInBounds_toArray, List.set_cons_zero, List.set_cons_succ]
                refine wpAnyH_ready (rs := [10]) (by kernel_rfl) (by simp) (br_alloc (i := 10) 13 36 (pvo w5.heap.size 0) (w5.alloc (.cells (rva zs (.slice none 0 0)) 36)) rfl rfl rfl rfl (alloc36 w5) (BV.out.trans ((vstep w5 _).mono BV.out.size)) (fun _ => ?_) AllReadyH.nil)
                have N14 := Lib.hid (show RBx (w5.alloc (.cells (rva zs (.slice none 0 0)) 36)) w5.heap.size zs (.slice none 0 0) from heap_alloc_new w5 _)
                have KW := Lib.hid (show wr.heap.size ≤ w5.heap.size from BV.out.size)
                have VS := Lib.hid (vstep w5 (.cells (rva zs (.slice none 0 0)) 36))
                have KG := Lib.hid (show w5.heap.size < (w5.alloc (.cells (rva zs (.slice none 0 0)) 36)).heap.size by simp)
                obtain ⟨hs, ha⟩ := aft18 HB64.out BC.out (B5.out.trans (VS.out.mono B5.out.size)) KW.out N14.out VO.out (h5b VS.out H5.out)
                have HS := Lib.hid hs
                have AF := Lib.hid ha
                clear hs ha
                have BV := Lib.hid (BV.out.trans (VS.out.mono BV.out.size))
                obtain ⟨wn, hwn⟩ : ∃ z, w5.alloc (.cells (rva zs (.slice none 0 0)) 36) = z := ⟨_, rfl⟩
                obtain ⟨k14, hk14⟩ : ∃ z, w5.heap.size = z := ⟨_, rfl⟩
                rw [hk14] at N14 KW KG HS AF ⊢
                rw [hwn] at N14 VS BV KG HS AF ⊢
                clear hwn hk14
                simp only [Act.put, List.setIfInBounds_toArray, List.set_cons_zero, List.set_cons_succ]
                refine wpAnyH_ready (rs := [11]) (by kernel_rfl) (by simp) (br_store (i := 11) 36 (.tmp 13) (.tmp 86) _ _ _ rfl rfl rfl rfl rfl rfl HS.out AF.out.2.1 (fun _ => ?_) AllReadyH.nil)
                have BV := Lib.hid AF.out.2.1
                simp only [Act.put, List.setIfInBounds_toArray, List.set_cons_zero, List.set_cons_succ]
                refine take_at (i := 12) 14 ?_ rfl rfl (by kernel_rfl) (by kernel_rfl) (by kernel_rfl) (fun _ _ _ h => h) (.inl ⟨rfl, ?_⟩) BV.out ?_
                rotate_left 1
                · intro w hSw; go_simp; try with_reducible rfl
                simp only [Act.put, List.setIfInBounds_toArray, List.set_cons_zero, List.set_cons_succ]
                refine wpAnyH_done (by kernel_rfl) ?_ _
                go_wp2_with fail
                go_meet
                exact ⟨_, _, rfl, rfl, AF⟩
              · have N14 := Lib.hid (show RBx (wd.alloc (.cells (rva zs (.slice none 0 0)) 36)) wd.heap.size zs (.slice none 0 0) from heap_alloc_new wd _)
                have KW := Lib.hid (show wr.heap.size ≤ wd.heap.size from BV.out.size)
                have VS := Lib.hid (vstep wd (.cells (rva zs (.slice none 0 0)) 36))
                have KG := Lib.hid (show wd.heap.size < (wd.alloc (.cells (rva zs (.slice none 0 0)) 36)).heap.size by simp)
                have BV := Lib.hid (BV.out.trans (VS.out.mono BV.out.size))
                obtain ⟨wn, hwn⟩ : ∃ z, wd.alloc (.cells (rva zs (.slice none 0 0)) 36) = z := ⟨_, rfl⟩
                obtain ⟨k14, hk14⟩ : ∃ z, wd.heap.size = z := ⟨_, rfl⟩
                rw [hk14] at N14 KW KG ⊢
                rw [hwn] at N14 VS BV KG ⊢
                clear hwn hk14
                simp only [Act.put, List.setIfInBounds_toArray, List.set_cons_zero, List.set_cons_succ]
                refine wpAnyH_ready (rs := [6]) (by kernel_rfl) (by simp) (br_call (i := 6) 85 12 #[.agg A, OV] rfl rfl rfl (by go_simp) ((RPC.out _ BV.out).mono ?_) AllReadyH.nil)
                rintro e w5 ⟨v5, rfl, hc5, hb5⟩
                have KK := Lib.hid (show wr.heap.size ≤ k14 from KW.out)
                obtain ⟨hs, ha⟩ := aft18 HB64.out BV.out hb5 KK.out (N14.out.step hb5) VO.out (h5a KG.out hc5)
                have HS := Lib.hid hs
                have AF := Lib.hid ha
                clear hs ha
                have BC := Lib.hid BV.out
                have H5 := Lib.hid hc5
                have B5 := Lib.hid hb5
                have BV := Lib.hid (BV.out.trans (hb5.mono BV.out.size))
                clear hb5 hc5
                refine ⟨_, rfl, BV.out, fun _ => ?_⟩
                simp only [Act.put, List.setIfInBounds_toArray, List.set_cons_zero, List.set_cons_succ]
                refine take_at (i := 7) 78 ?_ rfl rfl (by kernel_rfl) (by kernel_rfl) (by kernel_rfl) (fun _ _ _ h => h) (.inl ⟨rfl, ?_⟩) BV.out ?_
                rotate_left 1
                · intro w hSw; go_simp; try with_reducible rfl
                simp only [Act.put, List.setIfInBounds_toArray, List.set_cons_zero, List.set_cons_succ]
                refine take_at (i := 8) 86 ?_ rfl rfl (by kernel_rfl) (by kernel_rfl) (by kernel_rfl) (fun _ _ _ h => h) (.inl ⟨rfl, ?_⟩) BV.out ?_
                rotate_left 1
                · intro w hSw; go_simp; try with_reducible rfl
                simp only [Act.put, List.setIfInBounds_toArray, List.set_cons_zero, List.set_cons_succ]
                refine take_at (i := 9) 87 ?_ rfl rfl (by kernel_rfl) (by kernel_rfl) (by kernel_rfl) (fun _ _ _ h => h) (.inl ⟨rfl, ?_⟩) BV.out ?_
                rotate_left 1
                · intro w hSw; go_simp; try with_reducible rfl
                simp only [Act.put, List.setIfInBounds_toArray, List.set_cons_zero, List.set_cons_succ]
                refine wpAnyH_ready (rs := [11]) (by kernel_rfl) (by simp) (br_store (i := 11) 36 (.tmp 13) (.tmp 86) _ _ _ rfl rfl rfl rfl rfl rfl HS.out AF.out.2.1 (fun _ => ?_) AllReadyH.nil)
                have BV := Lib.hid AF.out.2.1
                simp only [Act.put, List.setIfInBounds_toArray, List.set_cons_zero, List.set_cons_succ]
                refine take_at (i := 12) 14 ?_ rfl rfl (by kernel_rfl) (by kernel_rfl) (by kernel_rfl) (fun _ _ _ h => h) (.inl ⟨rfl, ?_⟩) BV.out ?_
                rotate_left 1
                · intro w hSw; go_simp; try with_reducible rfl
                simp only [Act.put, List.setIfInBounds_toArray, List.set_cons_zero, List.set_cons_succ]
                refine wpAnyH_done (by kernel_rfl) ?_ _
                go_wp2_with fail
                go_meet
                exact ⟨_, _, rfl, rfl, AF⟩
            case rest =>
              obtain ⟨k14, v5, rfl, rfl, hAF⟩ := hcut
              obtain ⟨l14, w8, s12, p8⟩ := P.out.go18 HB64.out hAF.out
              have G9 := Lib.hid (put_gd G.out p.o)
              obtain ⟨R5, hR5⟩ : ∃ R5, rva bh v5 = R5 := ⟨_, rfl⟩
              rw [hR5] at l14 s12
              have L14 := Lib.hid l14
              have S12 := Lib.hid s12
              have P8 := Lib.hid p8
              have LO8 := Lib.hid (LOV0.out w8 P8.out.bel)
              have PU := Lib.hid (P8.out.put G.out (by omega) p.o SZ.out)
              rw [HOV.out] at PU
              clear l14 s12 p8 hR5 hAF RPC LOV L12
              go_wp2_with (first | (refine wpList_ld rfl (.tmp 13) 36 rfl (pvo k14 0) (.agg R5) rfl L14.out ?_; simp only [Act.put, List.setIfInBounds_toArray, List.set_cons_zero, List.set_cons_succ]) | (refine Ve.wpList_store_arr rfl (.tmp 9) (.tmp 88) 36 rfl (pvo g 0) (.agg R5) rfl rfl _ S12.out ?_; simp only [Act.put, List.setIfInBounds_toArray, List.set_cons_zero, List.set_cons_succ]) | (refine wpList_ld rfl (.tmp 93) 40 rfl (pvo ga (ka + i * 11 + 1)) OV rfl LO8.out ?_; simp only [Act.put, List.setIfInBounds_toArray, List.set_cons_zero, List.set_cons_succ]))
              refine PU.out.mono ?_
              rintro e w9 ⟨rfl, hP9⟩
              have P9 := Lib.hid hP9
              clear hP9 P8 L14 S12 LO8 PU
              go_wp2_with fail
              go_roundw
              case rel => exact ⟨i + 1, by go_num, by omega, by omega, Lib.hid ⟨_, _, _, P9.out, G9.out⟩⟩
              case measure => simp [intOf]; omega
        · have hd : (¬ (i : Int) < (l.length : Int)) ∨ ((i : Int) < (l.length : Int) ∧ ¬ (i : Int) < 40) := by
            by_cases h : i < l.length
            · exact .inr ⟨by omega, by omega⟩
            · exact .inl (by omega)
          have hfl : (flat Lh).length ≤ 2600 := by have := flat_le G.out; omega
          have hrn := HRN.out
          obtain ⟨A, hA⟩ : ∃ A, rva bh v = A := ⟨_, rfl⟩
          have L12 := Lib.hid (fun W (hb : Below wr.heap.size wr W) => (show (Instr.loadAt 36 (.pointer (some ⟨g, 0, none⟩))).run Tryd.prog W = .ok (.agg A) W by rw [← hA]; exact (P.out.ref.step hb).ldR G.out.len))
          have TOP := Lib.hid (fun W (hb : Below wr.heap.size wr W) => P.out.bel.trans (hb.mono P.out.bel.size))
          have RGC := Lib.hid (fun W (hb : Below wr.heap.size wr W) => ranges_any W (.slice wo wn wc) rs (HWL.out.step (TOP.out W hb)))
          have PTK := Lib.hid (fun W (hb : Below wr.heap.size wr W) rv (hv : LiesR W rv rs) => (P.out.step hb).take G.out (by omega) rv rs hv most hmost)
          have RTK := Lib.hid (fun W (hb : Below wr.heap.size wr W) => (show Calls Tryd.prog 22 #[.agg A, .slice wo wn wc, .int .i64 most] W fun e w' => ∃ r, e = .returned r ∧ RowO W w' r (takeF Lh rs most) from by
            rw [← hA, ← takeR_flat]
            exact rtake_any W bh G.out.len v (flat Lh) (own_olies (own_keep P.out.row hb)) hfl (.slice wo wn wc) rs (HWL.out.step (TOP.out W hb)) (by omega) most hmost))
          have SMC := Lib.hid (fun W r1 r2 (h1 : OLies W r1 (takeF Lh rs most)) (h2 : OLies W r2 (takeF Lh rs most)) => (show Calls Tryd.prog 19 #[r1, r2] W fun e w' => e = .returned (.bool true) ∧ Below W.heap.size W w' from by
            have := rsameO_any W r1 r2 _ _ h1 h2
            rwa [sameO_self] at this))
          have AWC := Lib.hid (fun W (hb : Below wr.heap.size wr W) => AW.out W (TOP.out W hb))
          clear hA hlt hfl hrn
          rcases hd with hd | ⟨hd, hd2⟩
          all_goals
            go_upto_region 17 with fail
            refine wp_region_held_drew (S := fun w' => Below wr.heap.size wr w') (by kernel_rfl) (Below.refl _ _).drew (fun hHeld => ?_)
            have BV := Lib.hid (show Below wr.heap.size wr wr.drew from (Below.refl _ _).drew)
            clear hHeld
            refine take_at (i := 0) 96 ?_ rfl rfl (by kernel_rfl) (by kernel_rfl) (by kernel_rfl) (fun _ _ _ h => h) (.inl ⟨rfl, ?_⟩) BV.out ?_
            rotate_left 1
            · intro w hSw; go_simp; try with_reducible rfl
            simp only [Act.put, List.setIfInBounds_toArray, List.set_cons_zero, List.set_cons_succ]
            refine take_at (i := 1) 97 ?_ rfl rfl (by kernel_rfl) (by kernel_rfl) (by kernel_rfl) (fun _ _ _ h => h) (.inl ⟨rfl, ?_⟩) BV.out ?_
            rotate_left 1
            · intro w hSw; go_simp; try with_reducible rfl
            simp only [Act.put, List.setIfInBounds_toArray, List.set_cons_zero, List.set_cons_succ]
            refine take_at (i := 3) 99 ?_ rfl rfl (by kernel_rfl) (by kernel_rfl) (by kernel_rfl) (fun _ _ _ h => h) (.inl ⟨rfl, ?_⟩) BV.out ?_
            rotate_left 1
            · intro w hSw; go_simp; try with_reducible rfl
            simp only [Act.put, List.setIfInBounds_toArray, List.set_cons_zero, List.set_cons_succ]
            refine take_at (i := 5) 101 (.agg A) rfl rfl (by kernel_rfl) (by kernel_rfl) (by kernel_rfl) (fun _ _ _ h => h) (yields_ld (.tmp 9) 36 (pvo g 0) _ L12.out rfl rfl rfl) BV.out ?_
            simp only [Act.put, List.setIfInBounds_toArray, List.set_cons_zero, List.set_cons_succ]
            refine take_at (i := 6) 102 ?_ rfl rfl (by kernel_rfl) (by kernel_rfl) (by kernel_rfl) (fun _ _ _ h => h) (.inl ⟨rfl, ?_⟩) BV.out ?_
            rotate_left 1
            · intro w hSw; go_simp; try with_reducible rfl
            simp only [Act.put, List.setIfInBounds_toArray, List.set_cons_zero, List.set_cons_succ]
            refine take_at (i := 7) 103 ?_ rfl rfl (by kernel_rfl) (by kernel_rfl) (by kernel_rfl) (fun _ _ _ h => h) (.inl ⟨rfl, ?_⟩) BV.out ?_
            rotate_left 1
            · intro w hSw; go_simp; try with_reducible rfl
            simp only [Act.put, List.setIfInBounds_toArray, List.set_cons_zero, List.set_cons_succ]
            refine wpAnyH_ready (rs := [2]) (by kernel_rfl) (by simp) (br_call (i := 2) 98 21 #[.slice wo wn wc] rfl rfl rfl (by go_simp) ((RGC.out _ BV.out).mono ?_) AllReadyH.nil)
            rintro e v1 ⟨rr, rfl, hrr, hb⟩
            have BV := Lib.hid (BV.out.trans (hb.mono BV.out.size))
            have RR := Lib.hid hrr
            clear hrr
            clear hb
            refine ⟨_, rfl, BV.out, fun _ => ?_⟩
            simp only [Act.put, List.setIfInBounds_toArray, List.set_cons_zero, List.set_cons_succ]
            refine wpAnyH_ready (rs := [4]) (by kernel_rfl) (by simp) (br_call (i := 4) 100 20 #[pv b, rr, .int .i64 most] rfl rfl rfl (by go_simp) ((PTK.out _ BV.out _ RR.out).mono ?_) AllReadyH.nil)
            rintro e v2 ⟨ra, rfl, hrow, hb⟩
            have BV := Lib.hid (BV.out.trans (hb.mono BV.out.size))
            have RR := Lib.hid (RR.out.step hb)
            have QT := Lib.hid (own_olies hrow)
            clear hrow
            clear hb
            refine ⟨_, rfl, BV.out, fun _ => ?_⟩
            simp only [Act.put, List.setIfInBounds_toArray, List.set_cons_zero, List.set_cons_succ]
            refine wpAnyH_ready (rs := [8]) (by kernel_rfl) (by simp) (br_call (i := 8) 104 22 #[.agg A, .slice wo wn wc, .int .i64 most] rfl rfl rfl (by go_simp) ((RTK.out _ BV.out).mono ?_) AllReadyH.nil)
            rintro e v3 ⟨rb, rfl, hrow, hb⟩
            have BV := Lib.hid (BV.out.trans (hb.mono BV.out.size))
            have RR := Lib.hid (RR.out.step hb)
            have QT := Lib.hid (QT.out.step hb)
            have QB := Lib.hid (own_olies hrow)
            clear hrow
            clear hb
            refine ⟨_, rfl, BV.out, fun _ => ?_⟩
            simp only [Act.put, List.setIfInBounds_toArray, List.set_cons_zero, List.set_cons_succ]
            refine wpAnyH_ready (rs := [9]) (by kernel_rfl) (by simp) (br_call (i := 9) 105 19 #[ra, rb] rfl rfl rfl (by go_simp) ((SMC.out _ _ _ QT.out QB.out).mono ?_) AllReadyH.nil)
            rintro e v4 ⟨rfl, hb⟩
            have BV := Lib.hid (BV.out.trans (hb.mono BV.out.size))
            have RR := Lib.hid (RR.out.step hb)
            have QT := Lib.hid (QT.out.step hb)
            have QB := Lib.hid (QB.out.step hb)
            clear hb
            refine ⟨_, rfl, BV.out, fun _ => ?_⟩
            simp only [Act.put, List.setIfInBounds_toArray, List.set_cons_zero, List.set_cons_succ]
            refine take_at (i := 10) 106 ?_ rfl rfl (by kernel_rfl) (by kernel_rfl) (by kernel_rfl) (fun _ _ _ h => h) (.inl ⟨rfl, ?_⟩) BV.out ?_
            rotate_left 1
            · intro w hSw; go_simp; try with_reducible rfl
            simp only [Act.put, List.setIfInBounds_toArray, List.set_cons_zero, List.set_cons_succ]
            refine wpAnyH_ready (rs := [11]) (by kernel_rfl) (by simp) (br_call (i := 11) 107 8 #[] rfl rfl rfl (by go_simp) ((AWC.out _ BV.out).mono ?_) AllReadyH.nil)
            rintro e v5 ⟨rfl, hb⟩
            have BV := Lib.hid (BV.out.trans (hb.mono BV.out.size))
            have RR := Lib.hid (RR.out.step hb)
            have QT := Lib.hid (QT.out.step hb)
            have QB := Lib.hid (QB.out.step hb)
            clear hb
            refine ⟨_, rfl, BV.out, fun _ => ?_⟩
            simp only [Act.put, List.setIfInBounds_toArray, List.set_cons_zero, List.set_cons_succ]
            refine take_at (i := 12) 108 ?_ rfl rfl (by kernel_rfl) (by kernel_rfl) (by kernel_rfl) (fun _ _ _ h => h) (.inl ⟨rfl, ?_⟩) BV.out ?_
            rotate_left 1
            · intro w hSw; go_simp; try with_reducible rfl
            simp only [Act.put, List.setIfInBounds_toArray, List.set_cons_zero, List.set_cons_succ]
            refine take_at (i := 13) 6 ?_ rfl rfl (by kernel_rfl) (by kernel_rfl) (by kernel_rfl) (fun _ _ _ h => h) (.inl ⟨rfl, ?_⟩) BV.out ?_
            rotate_left 1
            · intro w hSw; go_simp; try with_reducible rfl
            simp only [Act.put, List.setIfInBounds_toArray, List.set_cons_zero, List.set_cons_succ]
            refine wpAnyH_done (by kernel_rfl) ?_ _
            have FIN := Lib.hid (TOP.out _ BV.out)
            go_wp2
            go_returns
            exact ⟨rfl, FIN.out⟩
end Go.Proofs.YtgnnpfainoppeaaDoor

set_option linter.unusedVariables false
namespace Go.Proofs.YtgnnpfainoppeaaDoor
open Go.ChangeShapes Go.WideShapes Go.ChangeAt Go.RowKit Go.Joins Go.Deep

open Ve (LiesO LiesR Rg)
noncomputable def fs86 : Array Field := match Tryd.prog.underlying 86 with | some (.struct f) => f | _ => #[]
theorem und86 : Tryd.prog.underlying 86 = some (.struct fs86) := by kernel_rfl
theorem cel86 : Tryd.prog.cellsOf 86 = 3 := by kernel_rfl
theorem f86_0 : fs86[0]?.map (fun f => (f.offset, f.type)) = some (0, 3) := by kernel_rfl
theorem f86_1 : fs86[1]?.map (fun f => (f.offset, f.type)) = some (1, 3) := by kernel_rfl
theorem f86_2 : fs86[2]?.map (fun f => (f.offset, f.type)) = some (2, 3) := by kernel_rfl
def encR (p : Rg) : List Value := [.int .i64 p.1, .int .i64 p.2.1, .int .i64 p.2.2]
set_option maxRecDepth 100000 in
theorem open_rg {H : Type} {enc : TypeId × Value → H} {W : World} {base : Nat} {spare : Nat → Bool} {held : Bool} {fuel : Nat} {cs : List Value} {x : DataW H × List MemPlace} (h : DataW.trod enc Tryd.prog W base spare held fuel 86 cs = some x) :
    ∃ p : Rg, True ∧ cs = encR p := by
  obtain ⟨xs, n, _, _, hlen, hxl, hf⟩ := DataW.trod_struct und86 h
  rw [cel86] at hlen
  match cs, hlen with
  | [u0_, u1_, u2_], _ =>
    obtain ⟨g0, e0, o0, t0⟩ := field_at f86_0
    have k0 := hf 0 g0 e0
    obtain ⟨g1, e1, o1, t1⟩ := field_at f86_1
    have k1 := hf 1 g1 e1
    obtain ⟨g2, e2, o2, t2⟩ := field_at f86_2
    have k2 := hf 2 g2 e2
    have hs : xs.length = 3 := by rw [hxl]; kernel_rfl
    rw [o0, t0, (show Tryd.prog.cellsOf 3 = 1 by kernel_rfl), List.getElem?_eq_getElem (by omega)] at k0
    obtain ⟨a0, ha0, _, w0⟩ := DataW.trod_int (show Tryd.prog.underlying 3 = some (.int .i64) by kernel_rfl) k0
    simp at ha0
    rw [o1, t1, (show Tryd.prog.cellsOf 3 = 1 by kernel_rfl), List.getElem?_eq_getElem (by omega)] at k1
    obtain ⟨a1, ha1, _, w1⟩ := DataW.trod_int (show Tryd.prog.underlying 3 = some (.int .i64) by kernel_rfl) k1
    simp at ha1
    rw [o2, t2, (show Tryd.prog.cellsOf 3 = 1 by kernel_rfl), List.getElem?_eq_getElem (by omega)] at k2
    obtain ⟨a2, ha2, _, w2⟩ := DataW.trod_int (show Tryd.prog.underlying 3 = some (.int .i64) by kernel_rfl) k2
    simp at ha2
    exact ⟨(a0, a1, a2), trivial, by unfold encR; rw [← ha0, ← ha1, ← ha2]⟩
set_option maxRecDepth 100000 in
theorem view_rgs {H : Type} {enc : TypeId × Value → H} {W : World} {v : Value} {d : DataW H} {ps : List MemPlace} {b0 : Nat} {r : Reach} (hv : Value.okWide Tryd.prog W r b0 53 v) (h : DataW.Trod enc Tryd.prog W 0 (fun _ => true) true 53 v d ps) :
    ∃ l, LiesR W v l ∨ (∃ ao cap n, v = .slice ao n cap ∧ 20 < n ∧ n ≤ 9223372036854775807) := by
  obtain ⟨ao, cap, l, h1, h2, h3, h4, h5, h6⟩ := view_slice (show Tryd.prog.underlying 53 = some (.slice 86) by kernel_rfl) cel86 (Nat.succ_pos _) (fun (_ : Rg) => True) encR (fun h => open_rg h) hv h
  refine ⟨l, ?_⟩
  by_cases hl : l.length ≤ 1000
  · refine .inl ⟨ao, cap, h1, hl, fun e => (h4 e).1, fun b hb hne => ?_⟩
    obtain ⟨g, k, rfl, hg, hc⟩ := h5 b hb hne
    exact ⟨g, k, rfl, hg, fun j p hj => ⟨hc j p hj 0 _ rfl, hc j p hj 1 _ rfl, hc j p hj 2 _ rfl⟩⟩
  · exact .inr ⟨ao, cap, l.length, h1, by omega, by unfold maxLen at h3; omega⟩
end Go.Proofs.YtgnnpfainoppeaaDoor

set_option linter.unusedVariables false
namespace Go.Proofs.YtgnnpfainoppeaaDoor
open Go.ChangeShapes Go.WideShapes Go.ChangeAt Go.RowKit Go.Joins Go.Deep

set_option maxRecDepth 100000 in
theorem holdTakes_lifted (os : Os) (started : os.Started) (H : Type) (enc : TypeId × Value → H) :
    ReturnsInHanded {} Tryd.checked os 4 .any (fun w args => (Rows.holdTakesSpec.pre enc Tryd.prog Tryd.f4 [] false w args ∧ laidMetH Tryd.prog laid3 w) ∧ sizedMet enc Tryd.prog Tryd.f4 (OpenSpec.ofChange Rows.holdTakesSpec) false w args)
      (Rows.holdTakesSpec.post enc Tryd.prog Tryd.f4 false true false false) := by
  refine handed_both (C := Tryd.checked) (X := fun w _ => laidMetH Tryd.prog laid3 w) (fun _ _ _ hh h => h.of_heap hh) Tryd.own started (by kernel_rfl) Tryd.func4
    (ChangeSpec.witness_shaped (enc := enc) (C := Tryd.checked) (os := os) (X := fun w _ => laidMetH Tryd.prog laid3 w) false (World.laidAll Tryd.prog os laid3) #[.slice none 0 0, .slice none 0 0, .int .i64 0] 8 (World.laidAll_os _ _ _)
      (World.shaped_of_ZipB (by kernel_rfl) (by kernel_rfl)) (by kernel_rfl) (by kernel_rfl) (by kernel_rfl)
      (by rw [MakeChecks.laidMetH_plain _ _ _ (by kernel_rfl)]; exact laidMet_laidAll _ (by kernel_rfl) (by kernel_rfl))) ?_
  intro W base args ds gs before hval0 hW hL hsh
  have hval : ∀ (j : Nat) t v, Tryd.f4.params[j]? = some t → args[j]? = some v → Value.okWide Tryd.prog W .any base t v := hval0
  have hW' := hW
  obtain ⟨p, q, hA0, hV, rfl, hfz, hnd⟩ := hW
  have hA : DataW.TrodAll enc Tryd.prog W 0 (fun _ => true) true Tryd.f4.params.toList args.toList ds p := hA0
  rw [Tryd.params4] at hA hval
  obtain ⟨v0, v1, v2, d0, d1, d2, p0, p1, p2, rfl, rfl, rfl, h0, h1, h2⟩ := trodAll_three hA
  obtain ⟨rfl, rfl⟩ := trodVars_none hV
  obtain ⟨l0, hl0, hf0⟩ := view_acts (hval 0 23 v0 rfl rfl) h0
  obtain ⟨l1, hl1⟩ := view_rgs (hval 1 53 v1 rfl rfl) h1
  obtain ⟨n2, rfl, hn2⟩ := view_int (hval 2 3 v2 rfl rfl) h2
  clear hA0 hval0
  simp only [List.append_nil] at hW'
  have hlt : ∀ x ∈ p0 ++ p1 ++ p2, x.block < W.heap.size := fun x hx => by simpa using hW'.lt x (by simpa using hx)
  refine (takes_law W v0 v1 l0 l1 n2 hl0 hl1 hn2.1 (tab_of_laid hL)).mono fun e W' ⟨he, hb⟩ => ?_
  subst he
  have k0 := Below.trod Tryd.laidOut (by kernel_rfl) (of_decide_eq_true (by kernel_rfl)) h0 hb (fun x hx => hlt x (by simp [hx]))
  have k1 := Below.trod Tryd.laidOut (by kernel_rfl) (of_decide_eq_true (by kernel_rfl)) h1 hb (fun x hx => hlt x (by simp [hx]))
  have k2 := Below.trod Tryd.laidOut (by kernel_rfl) (of_decide_eq_true (by kernel_rfl)) h2 hb (fun x hx => hlt x (by simp [hx]))
  exact ⟨_, rfl, post_read hW' hb (trodAll_mk3 k0 k1 k2) rfl (trodAll_mk1 (shut_bool Tryd.underlying4 _))⟩

theorem holdTakes_row : Rows.HoldTakesSaid :=
  OpenClaim.holds_of_wide 4 Tryd.f4 rfl rfl rfl rfl rfl rfl rfl ⟨rfl, rfl, rfl, rfl, rfl⟩ rfl rfl rfl rfl rfl (by kernel_rfl) Tryd.func4 (by kernel_rfl)
    (of_decide_eq_true (by kernel_rfl)) (by unfold Func.isWrapper; first | (rw [if_pos (by decide +kernel)]; kernel_rfl) | (rw [if_neg (by decide +kernel)]; exact ⟨rfl, rfl⟩))
    (fun os started H enc _ => holdTakes_lifted os started H enc)

theorem holdTakes_card : Rows.HoldTakesCardSaid :=
  Claim7.holds_tied_plain_at .later [] [.data, .data, .data] true (true, "b46c8f1afb1c50d53dba86f314b5fef6f8db32404739d597ed3bd7c9bd1cac3d") false
    holdTakes_row (fun _ h => by cases h) (by kernel_rfl) (fun _ h => by cases h) holdTakes_row_tie rfl ⟨rfl, rfl⟩ (by kernel_rfl) rfl
    (fun f fn hf hfn => by
      obtain rfl : f = 4 := Option.some.inj ((show Tryd.prog.funcNamed "banyan/banyanlaw27.HoldTakes" = some 4 by kernel_rfl).symm.trans hf) |>.symm
      obtain rfl : fn = Tryd.f4 := (Option.some.inj (Tryd.func4.symm.trans hfn)).symm
      exact ⟨by kernel_rfl, fun j t ht => by
        rw [Tryd.params4] at ht
        have hm : t ∈ [23, 53, 3] := by simpa using Array.mem_of_getElem? ht
        have hall : ([23, 53, 3].all fun u => !Tryd.prog.wantsStandIn u) = true := by kernel_rfl
        exact (show Tryd.prog.wantsStandIn t = false by simpa using List.all_eq_true.1 hall t hm)⟩)
    (by kernel_rfl)
end Go.Proofs.YtgnnpfainoppeaaDoor
