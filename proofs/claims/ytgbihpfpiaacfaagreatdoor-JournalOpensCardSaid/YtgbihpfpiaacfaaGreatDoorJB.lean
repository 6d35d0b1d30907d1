/- The numbers of a disk's segments. -/
import Derived.Test.YtgbihpfpiaacfaaGreatDoorJA
import Derived.Lib.SmallJoins
set_option linter.unusedVariables false
set_option linter.unusedSimpArgs false
set_option maxRecDepth 100000
namespace Go.Proofs.YtgbihpfpiaacfaaGreatDoor
open Go.RowKit Go.Sort Go.Shelf

def enI (n : Int) : List Value := [.int .i64 n]
theorem enI_len (x : Int) : (enI x).length = 1 := rfl
theorem enI_one (x : Int) : ∀ v ∈ enI x, v.oneCell' = true := by
  intro v hv
  rw [List.mem_singleton.1 hv]
  rfl
theorem flat_I (l : List Int) : l.flatMap enI = l.map (Value.int .i64) := by
  induction l with
  | nil => rfl
  | cons a l ih => rw [List.flatMap_cons, ih]; rfl
theorem info3 : (Tryz.prog.info? 3).map (fun i => (i.zero, i.size, i.bytes)) = some (some (.int .i64 0), 1, 8) := by kernel_rfl
theorem Tryz.uI : Tryz.prog.underlying 54 = some (.slice 3) := by kernel_rfl
theorem heapI {w : World} {g n : Nat} {os : Array Obj} {cur : Array Value} {e : TypeId} {fr : Nat × Nat} (d : Array Int) (hb : w.heap[g]? = some (.cells cur e fr)) :
    (grow (putRow (Value.int .i64) (Sort.ahead w n) g 0 d) os).heap[g]? = some (.cells (putCells (Value.int .i64) 0 d cur) e fr) := by
  have hg : g < w.heap.size := (Array.getElem?_eq_some_iff.1 hb).1
  rw [heap_grow_old _ _ (by simpa [putRow, mapBlock, Sort.ahead] using hg)]
  simp [putRow, mapBlock, Sort.ahead, Array.getElem?_modify, hb, onCells]
theorem grownI {w : World} {g n : Nat} {os : Array Obj} (d : Array Int) : w.grownBy (grow (putRow (Value.int .i64) (Sort.ahead w n) g 0 d) os) (some g) := by
  refine ⟨rfl, rfl, rfl, by simp [putRow, mapBlock, Sort.ahead, grow], fun i hi hne => ?_⟩
  rw [heap_grow_old _ _ (by simpa [putRow, mapBlock, Sort.ahead] using hi)]
  have : g ≠ i := fun e => hne (by rw [e])
  simp [putRow, mapBlock, Sort.ahead, Array.getElem?_modify, this]
theorem takeI (cur : Array Value) (l : List Int) (h : l.length ≤ cur.size) : (putCells (Value.int .i64) 0 l.toArray cur).toList.take l.length = l.map (Value.int .i64) := by
  apply List.ext_getElem?
  intro j
  by_cases hj : j < l.length
  · rw [List.getElem?_take_of_lt hj, Array.getElem?_toList]
    have hc : j < cur.size := by omega
    unfold putCells
    rw [Array.getElem?_mapIdx, Array.getElem?_eq_getElem hc]
    simp [hj]
  · rw [List.getElem?_take_eq_none (by omega), List.getElem?_eq_none (by rw [List.length_map]; omega)]
theorem own_lower {w : World} {B B' e k n : Nat} {v : Value} {xs : List Value} (h : w.ownsRow B e k v n xs) (hB : B' ≤ B) : w.ownsRow B' e k v n xs := by
  refine ⟨h.1, ?_⟩
  rcases h.2 with h | ⟨g, cap, cur, h1, h2, h3⟩
  · exact .inl h
  · exact .inr ⟨g, cap, cur, h1, Nat.le_trans hB h2, h3⟩
theorem sortI_own (w : World) (B : Nat) (v : Value) (l : List Int) (h : w.ownsRow B 3 1 v l.length (l.flatMap enI)) (hl : l.length < 1000000) :
    Calls Tryz.prog 54 #[v] w fun e w' => e = .returned (.tuple #[]) ∧ ∃ l' : List Int, l'.Perm l ∧ l'.Pairwise (fun x y => x ≤ y) ∧ w'.ownsRow B 3 1 v l'.length (l'.flatMap enI) ∧ w.grownBy w' v.ownBlock := by
  rcases h.2 with ⟨rfl, h0⟩ | ⟨g, cap, cur, rfl, hB, hb, h1, h2, h3, h4⟩
  · have hn : l = [] := List.eq_nil_of_length_eq_zero h0
    subst hn
    refine (Tryz.slices_Sort_int_none none 0 w).mono ?_
    rintro e w' ⟨rfl, rfl⟩
    exact ⟨rfl, [], .refl _, List.Pairwise.nil, h, World.grownBy.mk rfl rfl rfl (Nat.le_refl _) (fun _ _ _ => rfl)⟩
  · have hg : g < w.heap.size := lt_of_block hb
    have hH : Holds (Value.int .i64) w g 0 l.toArray := by
      intro j hj
      have hj' : j < l.length := by simpa using hj
      refine ⟨?_, by simp [World.frozen?, hb]⟩
      have hcc := h.cells (g := g) rfl j (.int .i64 l[j]) (by rw [flat_I, List.getElem?_map, List.getElem?_eq_getElem hj']; rfl)
      rw [rk_addr, Nat.zero_add] at hcc
      rw [Nat.zero_add, hcc]
      congr 1
      simp [hj']
    refine (Tryz.slices_Sort_int g 0 cap l w hH hg (by omega)).mono ?_
    rintro e w' ⟨rfl, n, os, rfl⟩
    obtain ⟨ss, hss⟩ : ∃ ss, l.mergeSort (fun x y => decide (x ≤ y)) = ss := ⟨_, rfl⟩
    have hp : ss.Perm l := by rw [← hss]; exact List.mergeSort_perm _ _
    have hw : ss.Pairwise (fun x y => decide (x ≤ y) = true) := by
      rw [← hss]
      refine List.pairwise_mergeSort ?_ ?_ _
      · intro a b c h1 h2
        simp only [decide_eq_true_eq] at h1 h2 ⊢
        omega
      · intro a b
        simp only [Bool.or_eq_true, decide_eq_true_eq]
        omega
    rw [hss]
    have hlen : ss.length = l.length := hp.length_eq
    refine ⟨rfl, ss, hp, hw.imp (fun {a b} hab => of_decide_eq_true hab), ⟨by rw [flat_len enI_len], .inr ⟨g, cap, _, by rw [hlen], hB, heapI ss.toArray hb, by rw [hlen]; exact h1, h2, by simp [putCells, h3], ?_⟩⟩, grownI _⟩
    rw [flat_I, Nat.mul_one]
    exact takeI cur ss (by rw [hlen, h3]; omega)
def ints (ns : List Nat) : List Int := ns.map (fun n : Nat => (n : Int))
theorem ints_snoc {ns : List Nat} {i n : Nat} (h : ns[i]? = some n) : ints (ns.take (i + 1)) = ints (ns.take i) ++ [(n : Int)] := by
  obtain ⟨hlt, e⟩ := List.getElem?_eq_some_iff.1 h
  rw [List.take_succ_eq_append_getElem hlt, e]
  unfold ints
  rw [List.map_append]
  rfl
theorem wrap_up {i n : Nat} (h : i < n) (hn : n ≤ 100000) : wrap64 ((i : Int) + 1) = ((i + 1 : Nat) : Int) := by unfold wrap64; omega
theorem meas_up {i n : Nat} (h : i < n) : n - (i + 1) < n - i := by omega
set_option maxHeartbeats 3200000 in
theorem segs_any (w : World) (B d : Nat) (s : DS) (h : DK w B d s) (ns : List Nat) (hns : nms s.l = ns.map sg) (hr : ∀ n ∈ ns, 1 ≤ n ∧ n < 100) (hl : ns.length < 1000) :
    Calls Tryz.prog 38 #[pv d] w fun e w' => ∃ (v : Value) (ks : List Int), e = .returned v ∧ w'.ownsRow w.heap.size 3 1 v ks.length (ks.flatMap enI) ∧ ks.Perm (ints ns) ∧ ks.Pairwise (fun x y => x ≤ y) ∧ Below w.heap.size w w' := by
  have hll : s.l.length = ns.length := by have := congrArg List.length hns; unfold nms at this; simpa using this
  have NM := Lib.hid (names_any w B d s h (by omega))
  obtain ⟨i0, hi9, hz0, hz1, hz2⟩ := info_parts info3
  have NL := Lib.hid hl
  have NR := Lib.hid hr
  rw [hns] at NM
  clear h hl hr hns hll
  go_enter Tryz.func38, Tryz.ntmps38
  go_wp2_with fail
  refine NM.out.mono ?_
  rintro e w1 ⟨v, rfl, ho, hb⟩
  have hlm : (ns.map sg).length = ns.length := List.length_map _
  rw [hlm] at ho
  obtain ⟨va, vc, rfl⟩ := own_shapeK ho
  have OW := Lib.hid ho
  have B1 := Lib.hid hb
  clear ho hb NM hlm
  go_wp2_with fail
  go_loopw [3, 11] (fun ov kv wr => ∃ i : Nat, kv = .int .i64 i ∧ i ≤ ns.length ∧ Hid (wr.ownsRow w1.heap.size 3 1 ov (ints (ns.take i)).length ((ints (ns.take i)).flatMap enI) ∧ Below w1.heap.size w1 wr)) (fun _ kv _ => ns.length - (intOf kv).toNat)
  case atStart => exact ⟨0, rfl, Nat.zero_le _, Lib.hid ⟨World.ownsRow_nil _ _ _ _, Below.refl _ _⟩⟩
  case round =>
    obtain ⟨i, rfl, hi, hK⟩ := hrel
    obtain ⟨oa, oc, rfl⟩ := own_shapeK hK.out.1
    have KK := Lib.hid hK.out
    clear hK
    by_cases hlt : i < ns.length
    · have HW1 := Lib.hid (wrap_up hlt (Nat.le_of_lt (Nat.lt_of_lt_of_le NL.out (by decide))))
      have HM1 := Lib.hid (meas_up hlt)
      have HL1 := Lib.hid (show i + 1 ≤ ns.length from hlt)
      obtain ⟨n, hn⟩ : ∃ n, ns[i]? = some n := ⟨_, List.getElem?_eq_getElem hlt⟩
      have HN := NR.out n (List.mem_of_getElem? hn)
      have O1 := own_belowK OW.out KK.out.2
      obtain ⟨g, hg⟩ : ∃ g, va = some ⟨g, 0, none⟩ := by
        rcases O1.2 with ⟨_, e⟩ | ⟨g, _, _, e, _⟩
        · omega
        · injection e with e; exact ⟨g, e⟩
      subst hg
      have cg := O1.cells (g := g) rfl i (.string (sg n)) (by rw [flat_T, List.map_map, List.getElem?_map, hn]; rfl)
      rw [rk_addr, Nat.zero_add] at cg
      have TR := Lib.hid (Tryz.strings_TrimPrefix (sg n) ⟨#[108, 111, 103, 46]⟩ wr)
      rw [trim_sg, show (⟨(Lib.decDigits n).toArray⟩ : ByteArray) = dg n from rfl] at TR
      have AT := Lib.hid (Tryz.strconv_Atoi (dg n) (n : Int) (by have := dg_size HN.2; omega) (by show Lib.atoi (Lib.decDigits n).toArray.toList = _; exact atoi_dg HN.2) wr)
      have SN := Lib.hid (ints_snoc hn)
      obtain ⟨m, hm⟩ : ∃ m, ints (ns.take i) = m := ⟨_, rfl⟩
      have LM := Lib.hid (show m.length ≤ 1000 from by rw [← hm]; unfold ints; rw [List.length_map, List.length_take]; have := NL.out; omega)
      have LB := Lib.hid (show m.length + 1 ≤ maxLen ∧ (m.length + 1) * 8 ≤ 140737488355328 from by have := LM.out; unfold maxLen; omega)
      rw [hm] at SN KK ⊢
      have hi0 : (0 : Int) ≤ (i : Int) := by omega
      have hi1 : (i : Int) < (ns.length : Int) := by omega
      have HR := Lib.hid HN
      clear hm hn O1 HN
      go_wp2_with fail
      refine TR.out.mono ?_
      rintro e w2 ⟨rfl, rfl⟩
      go_wp2_with fail
      refine AT.out.mono ?_
      rintro e w3 ⟨rfl, t, hw3⟩
      have B3 := Lib.hid (show Below w2.heap.size w2 w3 from by rw [hw3]; exact Joins.below_bytesWorld _ _ _ _ (Nat.le_refl _))
      have NA := Lib.hid (name_any w3 n HR.out.2 HR.out.1)
      clear TR AT hw3 cg
      have teq2 : ((sg n).toList == (sg n).toList) = true := by simp
      go_wp2_with fail
      refine NA.out.mono ?_
      rintro e w4 ⟨rfl, rfl⟩
      have HX := Lib.hid (show (w3.alloc (.cells #[.int .i64 (n : Int)] 3)).heap[w3.heap.size]? = some (.cells (enI (n : Int)).toArray 3 (0, 0)) from heap_alloc_new w3 _)
      have OB := Lib.hid (own_belowK KK.out.1 (B3.out.trans ((vstep w3 (.cells #[.int .i64 (n : Int)] 3)).mono B3.out.size)))
      have B5 := Lib.hid (KK.out.2.trans ((B3.out.trans ((vstep w3 (.cells #[.int .i64 (n : Int)] 3)).mono B3.out.size)).mono KK.out.2.size))
      go_wp2_with (at_builtin; refine wpList_pushK rfl (.tmp 29) (.tmp 31) 54 rfl enI_len (by decide) enI_one w1.heap.size 3 i0 (.int .i64 0) 8 Tryz.uI hi9 hz0 hz1 hz2 rfl (.slice oa m.length oc) m (n : Int) w3.heap.size rfl rfl HX.out OB.out LB.out.1 LB.out.2 B5.out.size ?_; intro v6 w6 hown hgr; have O6 := Lib.hid hown; have B6 := Lib.hid (B5.out.grown hgr B5.out.size (fun k e => (OB.out.lt k e).1)); clear hown hgr)
      go_roundw
      case rel => exact ⟨i + 1, by rw [HW1.out], HL1.out, Lib.hid ⟨by rw [SN.out]; exact O6.out, B6.out⟩⟩
      case measure => first | (rw [HW1.out]; exact HM1.out) | exact HM1.out
    · have hnl : ¬ ((i : Int) < (ns.length : Int)) := by omega
      have hti : ns.take i = ns := List.take_of_length_le (by omega)
      rw [hti] at KK ⊢
      have SO := Lib.hid (sortI_own wr _ _ _ KK.out.1 (by unfold ints; rw [List.length_map]; have := NL.out; omega))
      obtain ⟨m, hm⟩ : ∃ m, ints ns = m := ⟨_, rfl⟩
      have HMM := Lib.hid hm
      rw [hm] at SO KK
      try rw [hm]
      clear hti
      go_wp2_with fail
      refine SO.out.mono ?_
      rintro e w4 ⟨rfl, l', hp, hs, ho, hg⟩
      have FF := Lib.hid (show w4.ownsRow w.heap.size 3 1 (.slice oa m.length oc) l'.length (l'.flatMap enI) ∧ l'.Perm (ints ns) ∧ l'.Pairwise (fun x y => x ≤ y) ∧ Below w.heap.size w w4 from
        ⟨own_lower ho B1.out.size, by rw [HMM.out]; exact hp, hs, B1.out.trans ((KK.out.2.grown hg KK.out.2.size (fun k e => (KK.out.1.lt k e).1)).mono B1.out.size)⟩)
      clear hp hs ho hg SO
      go_wp2
      go_returns
      exact ⟨.slice oa m.length oc, l', rfl, FF.out⟩
end Go.Proofs.YtgbihpfpiaacfaaGreatDoor
