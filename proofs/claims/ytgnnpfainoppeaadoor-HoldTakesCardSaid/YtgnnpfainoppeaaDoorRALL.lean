/- Merged by tools/merge.py: RA, RB, RC, RD, RE, RF, RG, RI. -/
import Derived.Test.YtgnnpfainoppeaaDoorHV
import Derived.Test.YtgnnpfainoppeaaDoorHX
import Derived.Deep.CutRange
import Derived.Laws.StructEq

set_option linter.unusedVariables false
set_option linter.unusedSimpArgs false
set_option maxRecDepth 100000
namespace Go.Proofs.YtgnnpfainoppeaaDoor
open Go.RowKit
open Ve (zs zs_len vw va)

def rvl (bs : List Int) (v : Value) : List Value := bs.map (Value.int .i64) ++ [v]
def rva (bs : List Int) (v : Value) : Array Value := (rvl bs v).toArray
theorem rvl_len (bs : List Int) (v : Value) (hb : bs.length = 64) : (rvl bs v).length = 65 := by simp [rvl, hb]
def RBx (W : World) (g : Nat) (bs : List Int) (v : Value) : Prop := W.heap[g]? = some (.cells (rva bs v) 36 (0, 0))
theorem RBx.step {W W' : World} {g : Nat} {bs : List Int} {v : Value} (h : RBx W g bs v) (hb : Below W.heap.size W W') : RBx W' g bs v := (hb.block _ (lt_of_block h)).trans h
theorem RBx.ci {W : World} {g : Nat} {bs : List Int} {v : Value} (h : RBx W g bs v) {i : Nat} {x : Int} (hx : bs[i]? = some x) : W.cell? ⟨g, i, none⟩ = some (.int .i64 x) := by
  have hi := (List.getElem?_eq_some_iff.1 hx).1
  rw [cell_of_row _ _ _ _ _ _ h, rva, List.getElem?_toArray, rvl, List.getElem?_append_left (by rw [List.length_map]; exact hi), List.getElem?_map, hx]; rfl
theorem RBx.cv {W : World} {g : Nat} {bs : List Int} {v : Value} (h : RBx W g bs v) (hb : bs.length = 64) : W.cell? ⟨g, 64, none⟩ = some v := by
  rw [cell_of_row _ _ _ _ _ _ h, rva, List.getElem?_toArray, rvl, List.getElem?_append_right (by rw [List.length_map, hb]; omega), List.length_map, hb]; rfl
theorem RBx.ldB {W : World} {g : Nat} {bs : List Int} {v : Value} (h : RBx W g bs v) (hb : bs.length = 64) : (Instr.loadAt 26 (.pointer (some ⟨g, 0, none⟩))).run Tryd.prog W = .ok (.agg (va bs)) W := by
  refine run_loadAt_mid W g 0 26 (bs.map (Value.int .i64)) (.array 64 3) ?_ (by kernel_rfl) rfl (by rw [List.length_map, hb]; kernel_rfl)
  intro j u hu
  rw [List.getElem?_map] at hu
  cases hx : bs[j]? with
  | none => rw [hx] at hu; cases hu
  | some x => rw [hx] at hu; injection hu with hu; rw [← hu, Nat.zero_add]; exact h.ci hx
noncomputable def fs36 : Array Field := match Tryd.prog.underlying 36 with | some (.struct f) => f | _ => #[]
theorem und36 : Tryd.prog.underlying 36 = some (.struct fs36) := by kernel_rfl
theorem siz36 : (Tryd.prog.info? 36).map (·.size) = some 65 := by kernel_rfl
theorem RBx.ldR {W : World} {g : Nat} {bs : List Int} {v : Value} (h : RBx W g bs v) (hb : bs.length = 64) : (Instr.loadAt 36 (.pointer (some ⟨g, 0, none⟩))).run Tryd.prog W = .ok (.agg (rva bs v)) W := by
  refine run_loadAt_mid W g 0 36 (rvl bs v) (.struct fs36) ?_ und36 rfl (by rw [siz36, rvl_len _ _ hb])
  intro j u hu
  rw [Nat.zero_add, cell_of_row _ _ _ _ _ _ h, rva, List.getElem?_toArray]
  exact hu
theorem zero36 : (Tryd.prog.info? 36).map (fun i => i.zero) = some (some (.agg (rva zs (.slice none 0 0)))) := by kernel_rfl
theorem pl36 : (match Tryd.prog.underlying 36 with | some (.struct fs) => fs.toList.mapM (fun f => (Tryd.prog.info? f.type).map fun i => (f.offset, i.size)) | _ => none) = some [(0, 64), (64, 1)] := by kernel_rfl
theorem build36 (W : World) (l : List Int) (hl : l.length = 64) : (Instr.build 36 #[(0, .agg (va l))]).run Tryd.prog W = .ok (.agg (rva l (.slice none 0 0))) W := by
  refine run_build W 36 _ _ ?_
  rw [built_struct zero36 pl36]
  have h0 : (rvl zs (.slice none 0 0)).length = 65 := rvl_len _ _ zs_len
  show Instr.fill _ (rvl zs (.slice none 0 0)).toArray [(0, .agg (va l))] = _
  rw [fill_one _ _ 0 0 (.agg (va l)) (l.map (Value.int .i64)) _ rfl (by rw [List.length_map, hl]; rfl) (by rw [List.length_map, hl, h0]; omega)]
  rw [Instr.fill, List.length_map, hl]
  refine congrArg (fun x : List Value => some x.toArray) ?_
  have hz : (zs.map (Value.int .i64)).length = 64 := by rw [List.length_map, zs_len]
  unfold rvl
  rw [List.take_zero, List.nil_append, Nat.zero_add, List.drop_left' hz]
theorem alloc36 (W : World) : (Instr.alloc 36 true (.tuple #[])).run Tryd.prog W = .ok (pvo W.heap.size 0) (W.alloc (.cells (rva zs (.slice none 0 0)) 36)) := by
  have h := (zero_of_info (P := Tryd.prog) (t := 36) (show (Tryd.prog.info? 36).map (fun i => (i.zero, i.size)) = some (some (.agg (rva zs (.slice none 0 0))), 65) by kernel_rfl)).1 W
  unfold Instr.alloc
  rw [Sem.run_bind, h]
  simp [newVar, Value.cells, go_sem]
theorem rva_one (bs : List Int) (v : Value) (h : v.oneCell' = true) : ∀ u ∈ rvl bs v, u.oneCell' = true := by
  intro u hu
  rcases List.mem_append.1 hu with hu | hu
  · obtain ⟨x, _, rfl⟩ := List.mem_map.1 hu; rfl
  · rw [List.mem_singleton.1 hu]; exact h
theorem store36 (W : World) (g : Nat) (bs cs : List Int) (u v : Value) (hb : bs.length = 64) (hc : cs.length = 64) (hv : v.oneCell' = true) (h : RBx W g bs u) :
    (Instr.storeAt 36 (.pointer (some ⟨g, 0, none⟩)) (.agg (rva cs v))).run Tryd.prog W = .ok () (W.setRow g (rva cs v)) := by
  have s1 : (rva cs v).size = 65 := by unfold rva; rw [List.size_toArray, rvl_len _ _ hc]
  have s2 : (rva bs u).size = 65 := by unfold rva; rw [List.size_toArray, rvl_len _ _ hb]
  have := run_storeVar_row (P := Tryd.prog) W g 36 36 (rva bs u) (rva cs v) h (by rw [siz36, s1]) (by rw [s2, s1]) (all_oneCell_toArray (rva_one cs v hv))
  simp only [Instr.storeAt, Instr.sureAddr, Sem.run_bind, Sem.run_pure, Result.andThen_ok, this]
theorem RBx.row {W : World} {g : Nat} {bs cs : List Int} {u v : Value} (h : RBx W g bs u) : RBx (W.setRow g (rva cs v)) g cs v := setRow_heap _ _ _ _ _ _ h
theorem RBx.setv {W : World} {g : Nat} {bs : List Int} {u v : Value} (h : RBx W g bs u) (hb : bs.length = 64) : RBx (W.setCell ⟨g, 64, none⟩ v) g bs v := by
  unfold RBx
  rw [Ve.row_setC h, rva, rva, List.setIfInBounds_toArray, rvl, rvl, List.set_append_right _ _ (by rw [List.length_map, hb]; omega), List.length_map, hb]
  rfl
theorem RBx.seti {W : World} {g : Nat} {bs : List Int} {v : Value} (h : RBx W g bs v) (i : Nat) (hi : i < bs.length) (x : Int) : RBx (W.setCell ⟨g, i, none⟩ (.int .i64 x)) g (bs.set i x) v := by
  unfold RBx
  rw [Ve.row_setC h, rva, rva, List.setIfInBounds_toArray, rvl, rvl, List.set_append_left _ _ (by rw [List.length_map]; exact hi), List.map_set]
theorem RBx.free {W : World} {g : Nat} {bs : List Int} {v : Value} (h : RBx W g bs v) : ∀ j, W.frozen? ⟨g, j, none⟩ = false := fun j => frozen_of_row _ _ _ _ _ h
theorem Below.bsize {w w' : World} {B : Nat} (h : Below B w w') : w.heap.size ≤ w'.heap.size := h.size
theorem OLies.one {w : World} {v : Value} {l : List O} (h : OLies w v l) : v.oneCell' = true := by obtain ⟨ao, cap, rfl, _⟩ := h; rfl
theorem z26 : Ve.Z64 26 := by unfold Ve.Z64; kernel_rfl
theorem v26 : Ve.V64 26 := ⟨⟨3, by kernel_rfl⟩, by kernel_rfl⟩
set_option maxHeartbeats 1600000 in
theorem rtime_any2 (w : World) (bs : List Int) (hb : bs.length = 64) (v : Value) (l : List O) (hv : OLies w v l) : Calls Tryd.prog 41 #[.agg (rva bs v)] w fun e w' => e = .returned (.int .i64 (maxT l 0)) ∧ Below w.heap.size w w' := by
  have X := vstep w (.cells (rva bs v) 36)
  have R := heap_alloc_new w (.cells (rva bs v) 36)
  have CV := RBx.cv (show RBx (w.alloc (.cells (rva bs v) 36)) w.heap.size bs v from R) hb
  have V := Lib.hid (hv.step X)
  have XH := Lib.hid X
  have hl := hv.len
  obtain ⟨ao, cap, rfl⟩ := hv.shape
  generalize rva bs (.slice ao l.length cap) = A at *
  clear R hv X hb
  go_enter Tryd.func41, Tryd.ntmps41
  go_wp2
  go_loop [3, 4] (fun tv iv => ∃ (i : Nat) (t : Int), iv = .int .i64 i ∧ i ≤ l.length ∧ tv = .int .i64 t ∧ Hid (t = maxT (l.take i) 0)) (fun _ iv => l.length - (intOf iv).toNat)
  case atStart => exact ⟨0, 0, rfl, Nat.zero_le _, rfl, Lib.hid rfl⟩
  case round =>
    obtain ⟨i, t, rfl, hi, rfl, hT⟩ := hrel
    by_cases hlt : i < l.length
    · obtain ⟨k, off, o, rfl, ho, hk, e0, _⟩ := V.out.at' hlt
      have HN := Lib.hid (show maxT (l.take (i + 1)) 0 = max t o.t by
        rw [Ve.take_snoc' l i o ho]; unfold maxT; rw [List.foldl_append, hT.out]; rfl)
      have hi0 : (0 : Int) ≤ (i : Int) := by omega
      have hi1 : (i : Int) < (l.length : Int) := by omega
      clear ho hk hT
      by_cases hq : t < o.t
      · have NN := Lib.hid (show o.t = maxT (l.take (i + 1)) 0 by rw [HN.out]; omega)
        go_wp2
        go_round
        case rel => exact ⟨i + 1, o.t, by go_num, by omega, rfl, NN⟩
        case measure => simp [intOf]; omega
      · have NN := Lib.hid (show t = maxT (l.take (i + 1)) 0 by rw [HN.out]; omega)
        go_wp2
        go_round
        case rel => exact ⟨i + 1, t, by go_num, by omega, rfl, NN⟩
        case measure => simp [intOf]; omega
    · have E := Lib.hid (show t = maxT l 0 by rw [hT.out, List.take_of_length_le (by omega)])
      clear hT
      go_wp2
      go_returns
      exact ⟨by rw [← E.out]; rfl, XH.out⟩
end Go.Proofs.YtgnnpfainoppeaaDoor

set_option linter.unusedVariables false
set_option linter.unusedSimpArgs false
set_option maxRecDepth 100000
namespace Go.Proofs.YtgnnpfainoppeaaDoor
open Go.RowKit
open Ve (zs zs_len vw va)

/-- Ops whose replicas are some, and numbers that are not too great. -/
def Small (bs : List Int) (k : Nat) : Prop := bs.length = 64 ∧ ∀ (i : Nat) x, bs[i]? = some x → 0 ≤ x ∧ x ≤ 4294967296 + (k : Int)
theorem knS_small {v : List Int} {k : Nat} (h : Small v k) (o : O) (hr : 0 ≤ o.r ∧ o.r < 64) : Small (knS v o) (k + 1) := by
  refine ⟨by rw [knS_len, h.1], fun i x hx => ?_⟩
  unfold knS at hx
  rw [List.getElem?_set] at hx
  have hk : o.r.toNat < v.length := by rw [h.1]; omega
  by_cases e : o.r.toNat = i
  · rw [if_pos e] at hx
    subst e
    rw [if_pos hk] at hx
    injection hx with hx
    have := h.2 o.r.toNat _ (List.getElem?_eq_getElem hk)
    rw [getD_some (List.getElem?_eq_getElem hk)] at hx
    omega
  · rw [if_neg e] at hx
    have := h.2 i x hx
    omega
theorem knF_small : ∀ (l : List O) (v : List Int) (k : Nat), Small v k → (∀ o ∈ l, 0 ≤ o.r ∧ o.r < 64) → Small (l.foldl knS v) (k + l.length)
  | [], v, k, h, _ => h
  | o :: l, v, k, h, hr => by
    rw [List.foldl_cons, List.length_cons, show k + (l.length + 1) = k + 1 + l.length by omega]
    exact knF_small l _ _ (knS_small h o (hr o (List.mem_cons_self ..))) (fun o ho => hr o (List.mem_cons_of_mem _ ho))
set_option maxHeartbeats 3200000 in
theorem rknown_any (w : World) (bs : List Int) (hs : Small bs 0) (v : Value) (l : List O) (hv : OLies w v l) (hr : ∀ o ∈ l, 0 ≤ o.r ∧ o.r < 64) (hl : l.length ≤ 100000) :
    Calls Tryd.prog 33 #[.agg (rva bs v)] w fun e w' => e = .returned (.agg (va (l.foldl knS bs))) ∧ Below w.heap.size w w' := by
  have hb := hs.1
  have X1 := vstep w (.cells (rva bs v) 36)
  have R1 : RBx (w.alloc (.cells (rva bs v) 36)) w.heap.size bs v := heap_alloc_new w _
  have AZ := Ve.alloc_va z26 (w.alloc (.cells (rva bs v) 36))
  have N2 := heap_alloc_new (w.alloc (.cells (rva bs v) 36)) (.cells (va zs) 26)
  have X2 := vstep (w.alloc (.cells (rva bs v) 36)) (.cells (va zs) 26)
  have s1 : (w.alloc (.cells (rva bs v) 36)).heap.size = w.heap.size + 1 := by simp
  rw [s1] at AZ N2
  obtain ⟨W1, hW1⟩ : ∃ W1, (w.alloc (.cells (rva bs v) 36)).alloc (.cells (va zs) 26) = W1 := ⟨_, rfl⟩
  rw [hW1] at AZ N2 X2
  have R2 := R1.step X2
  have LB := Lib.hid (R2.ldB hb)
  have A2 := Ve.alloc_va z26 W1
  have s2 : W1.heap.size = w.heap.size + 2 := by rw [← hW1]; simp
  have X3 := vstep W1 (.cells (va zs) 26)
  have N3 := heap_alloc_new W1 (.cells (va zs) 26)
  rw [s2] at A2 N3
  have ST := Lib.hid (Ve.store_va v26 (W1.alloc (.cells (va zs) 26)) (w.heap.size + 2) (va zs) (by rw [Ve.va_size, zs_len]) bs hb N3)
  have N4 := setRow_heap (W1.alloc (.cells (va zs) 26)) (w.heap.size + 2) (va zs) (va bs) 26 (0, 0) N3
  have B4 := Ve.below_setRow X3 (g := w.heap.size + 2) (by omega) (va bs)
  obtain ⟨W2, hW2⟩ : ∃ W2, (W1.alloc (.cells (va zs) 26)).setRow (w.heap.size + 2) (va bs) = W2 := ⟨_, rfl⟩
  rw [hW2] at ST N4 B4
  have O4 := Lib.hid ((B4.block (w.heap.size + 1) (by omega)).trans N2)
  have R4 := Lib.hid (R2.step B4)
  have XX := Lib.hid ((X1.trans (X2.mono (by omega))).trans (B4.mono (by omega)))
  have V := Lib.hid hv
  have AZH := Lib.hid AZ
  have A2H := Lib.hid A2
  have N4H := Lib.hid N4
  have HR := Lib.hid hr
  have HS := Lib.hid hs
  obtain ⟨ao, cap, rfl⟩ := hv.shape
  have CV := R4.out.cv hb
  have HB := Lib.hid hb
  clear R1 AZ N2 X1 X2 s1 hW1 R2 A2 s2 X3 N3 N4 B4 hW2 hv hr hs CV hb
  obtain ⟨A, hA⟩ : ∃ A, rva bs (.slice ao l.length cap) = A := ⟨_, rfl⟩
  rw [hA] at AZH ⊢
  clear hA
  go_enter Tryd.func33, Tryd.ntmps33
  go_wp2_with (first | refine Ve.wpList_alloc_arr rfl 26 rfl _ _ AZH.out ?_ | refine Ve.wpList_load_arr rfl (.tmp 6) 26 rfl _ _ rfl LB.out ?_ | refine Ve.wpList_alloc_arr rfl 26 rfl _ _ A2H.out ?_ | refine Ve.wpList_store_arr rfl (.tmp 3) (.tmp 7) 26 rfl _ _ rfl rfl _ ST.out ?_)
  clear AZH LB A2H ST
  go_loopw [4] (fun iv wr => ∃ i : Nat, iv = .int .i64 i ∧ i ≤ l.length ∧ Hid (wr.heap[w.heap.size + 2]? = some (.cells (va ((l.take i).foldl knS bs)) 26 (0, 0)) ∧ RBx wr w.heap.size bs (.slice ao l.length cap) ∧ wr.heap[w.heap.size + 1]? = some (.cells (va zs) 26 (0, 0)) ∧ Below w.heap.size w wr)) (fun iv _ => l.length - (intOf iv).toNat)
  case atStart => exact ⟨0, rfl, Nat.zero_le _, Lib.hid ⟨N4H.out, R4.out, O4.out, XX.out⟩⟩
  case round =>
    obtain ⟨i, rfl, hi, hI⟩ := hrel
    have CV := hI.out.2.1.cv HB.out
    by_cases hlt : i < l.length
    · obtain ⟨k, off, o, rfl, ho, hk, e0, e1, _⟩ := (V.out.step hI.out.2.2.2).at' hlt
      have hro := HR.out o (List.mem_of_getElem? ho)
      obtain ⟨q, hq⟩ : ∃ q : Nat, o.r = (q : Int) := ⟨o.r.toNat, by omega⟩
      have hq64 : q < 64 := by omega
      have SM := knF_small (l.take i) bs 0 HS.out (fun p hp => HR.out p (List.mem_of_mem_take hp))
      have hcl := SM.1
      obtain ⟨x, hx⟩ : ∃ x, ((l.take i).foldl knS bs)[q]? = some x := ⟨_, List.getElem?_eq_getElem (by rw [hcl]; exact hq64)⟩
      have hxb := SM.2 q x hx
      have hlen : (l.take i).length ≤ 100000 := by rw [List.length_take]; omega
      have g := Ve.cell_va hI.out.1 hx
      have f := frozen_of_row _ _ q _ _ hI.out.1
      obtain ⟨z, hz⟩ : ∃ z, wrap64 (x + 1) = z := ⟨_, rfl⟩
      have HN := Lib.hid (show ((l.take i).foldl knS bs).set q z = (l.take (i + 1)).foldl knS bs by
        rw [Ve.take_snoc' l i o ho, List.foldl_append]
        show _ = knS ((l.take i).foldl knS bs) o
        have kk : ∀ X : List Int, X[q]? = some x → knS X o = X.set q (x + 1) := fun X h => by unfold knS; rw [hq, Int.toNat_natCast, getD_some h]
        rw [kk _ hx, ← hz]
        congr 1
        unfold wrap64; omega)
      have R3 := Lib.hid (show (wr.setCell ⟨w.heap.size + 2, q, none⟩ (.int .i64 z)).heap[w.heap.size + 2]? = some (.cells (va ((l.take (i + 1)).foldl knS bs)) 26 (0, 0)) by rw [← HN.out]; exact Ve.set_va hI.out.1 q z)
      have BX := hI.out.2.2.2.setCell (p := ⟨w.heap.size + 2, q, none⟩) (by show w.heap.size ≤ w.heap.size + 2; omega) (.int .i64 z)
      have keep := fun j (hj : j ≠ w.heap.size + 2) => Below.heap_setCell wr ⟨w.heap.size + 2, q, none⟩ (.int .i64 z) j hj
      have K1 := Lib.hid (show RBx (wr.setCell ⟨w.heap.size + 2, q, none⟩ (.int .i64 z)) w.heap.size bs _ from (keep w.heap.size (by omega)).trans hI.out.2.1)
      have K2 := Lib.hid ((keep (w.heap.size + 1) (by omega)).trans hI.out.2.2.1)
      have BXH := Lib.hid BX
      have q0 : (0 : Int) ≤ (q : Int) := by omega
      have q1 : (q : Int) < 64 := by omega
      have hi0 : (0 : Int) ≤ (i : Int) := by omega
      have hi1 : (i : Int) < (l.length : Int) := by omega
      rw [hq] at e1
      clear BX keep hx hxb hlen SM hcl hro hq ho hk HN e0 hI
      go_wp2
      go_roundw
      case rel => exact ⟨i + 1, by go_num, by omega, Lib.hid ⟨R3.out, K1.out, K2.out, BXH.out⟩⟩
      case measure => simp [intOf]; omega
    · have HE := Lib.hid (show (l.take i).foldl knS bs = l.foldl knS bs by rw [List.take_of_length_le (by omega)])
      have HC := Lib.hid (show (l.foldl knS bs).length = 64 by rw [knF_len, HB.out])
      have R := hI.out.1
      rw [HE.out] at R
      have LD := Lib.hid (Ve.load_va v26 wr (w.heap.size + 2) _ HC.out R)
      have SR := Lib.hid (Ve.store_va v26 wr (w.heap.size + 1) (va zs) (by rw [Ve.va_size, zs_len]) _ HC.out hI.out.2.2.1)
      clear R HE
      go_wp2_with (first | refine Ve.wpList_load_arr rfl (.tmp 3) 26 rfl _ _ rfl LD.out ?_ | refine Ve.wpList_store_arr rfl (.tmp 2) (.tmp 28) 26 rfl _ _ rfl rfl _ SR.out ?_ |
        refine bodyPost_ret (Ve.ret_va (b := w.heap.size + 1) rfl v26 HC.out rfl (setRow_heap _ _ _ _ _ _ hI.out.2.2.1)) rfl ⟨rfl, Ve.below_setRow hI.out.2.2.2 (by omega) _⟩)
/-- What the reference's Get answers. -/
def rgetO (l : List O) (r q : Int) : Value := match l.find? (fun o => decide (o.r = r ∧ o.q = q)) with
  | none => .tuple #[oV O0, .bool false]
  | some o => .tuple #[oV o, .bool true]
theorem find_take {p : O → Bool} : ∀ (l : List O) (i : Nat) (o : O), (l.take i).find? p = none → l[i]? = some o → p o = true → l.find? p = some o
  | [], i, o, _, h, _ => by cases h
  | a :: l, 0, o, _, h, hp => by injection h with h; subst h; rw [List.find?_cons, hp]
  | a :: l, i + 1, o, hn, h, hp => by
    rw [List.take_succ_cons, List.find?_cons] at hn
    cases ha : p a with
    | true => rw [ha] at hn; cases hn
    | false =>
      rw [ha] at hn
      rw [List.find?_cons, ha]
      exact find_take l i o hn (by simpa using h) hp
set_option maxHeartbeats 3200000 in
theorem rget_any (w : World) (bs : List Int) (hb : bs.length = 64) (v : Value) (l : List O) (hv : OLies w v l) (r q : Int) :
    Calls Tryd.prog 18 #[.agg (rva bs v), .int .i64 r, .int .i64 q] w fun e w' => e = .returned (rgetO l r q) ∧ Below w.heap.size w w' := by
  have X1 := vstep w (.cells (rva bs v) 36)
  have R1 : RBx (w.alloc (.cells (rva bs v) 36)) w.heap.size bs v := heap_alloc_new w _
  have s1 : (w.alloc (.cells (rva bs v) 36)).heap.size = w.heap.size + 1 := by simp
  have AZ := alloc40 (w.alloc (.cells (rva bs v) 36))
  have N2 := heap_alloc_new (w.alloc (.cells (rva bs v) 36)) (.cells (oCells O0) 40)
  have X2 := vstep (w.alloc (.cells (rva bs v) 36)) (.cells (oCells O0) 40)
  rw [s1] at AZ N2
  obtain ⟨W1, hW1⟩ : ∃ W1, (w.alloc (.cells (rva bs v) 36)).alloc (.cells (oCells O0) 40) = W1 := ⟨_, rfl⟩
  rw [hW1] at AZ N2 X2
  have R2 := R1.step X2
  have CV := R2.cv hb
  have XX := Lib.hid (X1.trans (X2.mono (by omega)))
  have V := Lib.hid (hv.step XX.out)
  have ST := Lib.hid (fun o => store_o W1 (w.heap.size + 1) O0 o N2)
  have N2H := Lib.hid N2
  have AZH := Lib.hid AZ
  have hl := hv.len
  obtain ⟨ao, cap, rfl⟩ := hv.shape
  clear R1 AZ N2 X1 X2 s1 hW1 R2 hv
  obtain ⟨A, hA⟩ : ∃ A, rva bs (.slice ao l.length cap) = A := ⟨_, rfl⟩
  rw [hA] at AZH ⊢
  clear hA
  go_enter Tryd.func18, Tryd.ntmps18
  go_wp2_with (first | refine Ve.wpList_alloc_arr rfl 40 rfl _ _ AZH.out ?_)
  clear AZH
  go_loop [8] (fun iv => ∃ i : Nat, iv = .int .i64 i ∧ i ≤ l.length ∧ Hid ((l.take i).find? (fun o => decide (o.r = r ∧ o.q = q)) = none)) (fun iv => l.length - (intOf iv).toNat)
  case atStart => exact ⟨0, rfl, Nat.zero_le _, Lib.hid rfl⟩
  case round =>
    obtain ⟨i, rfl, hi, hF⟩ := hrel
    by_cases hlt : i < l.length
    · obtain ⟨k, off, o, rfl, ho, hk, e0, e1, e2, e3, e4, e5, e6, e7, e8⟩ := V.out.at' hlt
      have hi0 : (0 : Int) ≤ (i : Int) := by omega
      have hi1 : (i : Int) < (l.length : Int) := by omega
      by_cases hq : o.r = r ∧ o.q = q
      · have E := Lib.hid (show rgetO l r q = .tuple #[oV o, .bool true] by unfold rgetO; rw [find_take l i o hF.out ho (decide_eq_true hq)])
        have hq1 := beqb_ o.r r hq.1
        have hq2 := beqb_ o.q q hq.2
        have S1 := Lib.hid (ST.out o)
        have R3 := setRow_heap _ _ _ (oCells o) _ _ N2H.out
        have X3 := Lib.hid (Ve.below_setRow XX.out (g := w.heap.size + 1) (by omega) (oCells o))
        have d0 := (cell_of_row _ _ 0 _ _ _ R3).trans (show (oCells o)[0]? = some (.int .i64 o.t) from rfl)
        have d1 := (cell_of_row _ _ 1 _ _ _ R3).trans (show (oCells o)[1]? = some (.int .i64 o.r) from rfl)
        have d2 := (cell_of_row _ _ 2 _ _ _ R3).trans (show (oCells o)[2]? = some (.int .i64 o.q) from rfl)
        have d3 := (cell_of_row _ _ 3 _ _ _ R3).trans (show (oCells o)[3]? = some (.int .i64 o.nt) from rfl)
        have d4 := (cell_of_row _ _ 4 _ _ _ R3).trans (show (oCells o)[4]? = some (.int .i64 o.nr) from rfl)
        have d5 := (cell_of_row _ _ 5 _ _ _ R3).trans (show (oCells o)[5]? = some (.int .i64 o.pt) from rfl)
        have d6 := (cell_of_row _ _ 6 _ _ _ R3).trans (show (oCells o)[6]? = some (.int .i64 o.pr) from rfl)
        have d7 := (cell_of_row _ _ 7 _ _ _ R3).trans (show (oCells o)[7]? = some (.string o.nm) from rfl)
        have d8 := (cell_of_row _ _ 8 _ _ _ R3).trans (show (oCells o)[8]? = some (.bool o.d) from rfl)
        clear ho hk hF R3 hq
        go_wp2_with (first | refine Ve.wpList_store_arr rfl (.tmp 6) (.tmp 39) 40 rfl _ (oV o) rfl rfl _ S1.out ?_ | refine bodyPost_ret (by simp [results, Tryd.results18, go_sem, d0, d1, d2, d3, d4, d5, d6, d7, d8]; try rfl) rfl ⟨congrArg Ending.returned E.out.symm, X3.out⟩)
      · have HN := Lib.hid (show (l.take (i + 1)).find? (fun o => decide (o.r = r ∧ o.q = q)) = none by
          rw [Ve.take_snoc' l i o ho, List.find?_append, hF.out]
          simp only [List.find?_cons, decide_eq_false hq]
          rfl)
        have hd : (o.r == r) = false ∨ ((o.r == r) = true ∧ (o.q == q) = false) := by
          by_cases e : o.r = r
          · exact .inr ⟨beqb_ _ _ e, bneb_ _ _ (fun e2 => hq ⟨e, e2⟩)⟩
          · exact .inl (bneb_ _ _ e)
        clear ho hk hF hq
        rcases hd with hd | ⟨hd, hd2⟩
        all_goals
          go_wp2
          go_round
          case rel => exact ⟨i + 1, by go_num, by omega, HN⟩
          case measure => simp [intOf]; omega
    · have E := Lib.hid (show rgetO l r q = .tuple #[oV O0, .bool false] by
        have := hF.out
        rw [List.take_of_length_le (show l.length ≤ i by omega)] at this
        unfold rgetO
        rw [this])
      have S1 := Lib.hid (ST.out O0)
      have R3 := setRow_heap _ _ _ (oCells O0) _ _ N2H.out
      have X3 := Lib.hid (Ve.below_setRow XX.out (g := w.heap.size + 1) (by omega) (oCells O0))
      have d0 := (cell_of_row _ _ 0 _ _ _ R3).trans (show (oCells O0)[0]? = some (.int .i64 0) from rfl)
      have d1 := (cell_of_row _ _ 1 _ _ _ R3).trans (show (oCells O0)[1]? = some (.int .i64 0) from rfl)
      have d2 := (cell_of_row _ _ 2 _ _ _ R3).trans (show (oCells O0)[2]? = some (.int .i64 0) from rfl)
      have d3 := (cell_of_row _ _ 3 _ _ _ R3).trans (show (oCells O0)[3]? = some (.int .i64 0) from rfl)
      have d4 := (cell_of_row _ _ 4 _ _ _ R3).trans (show (oCells O0)[4]? = some (.int .i64 0) from rfl)
      have d5 := (cell_of_row _ _ 5 _ _ _ R3).trans (show (oCells O0)[5]? = some (.int .i64 0) from rfl)
      have d6 := (cell_of_row _ _ 6 _ _ _ R3).trans (show (oCells O0)[6]? = some (.int .i64 0) from rfl)
      have d7 := (cell_of_row _ _ 7 _ _ _ R3).trans (show (oCells O0)[7]? = some (.string ⟨#[]⟩) from rfl)
      have d8 := (cell_of_row _ _ 8 _ _ _ R3).trans (show (oCells O0)[8]? = some (.bool false) from rfl)
      clear hF R3
      go_wp2_with (first | refine Ve.wpList_store_arr rfl (.tmp 6) (.tmp 40) 40 rfl _ _ rfl rfl _ S1.out ?_ | refine bodyPost_ret (by simp [results, Tryd.results18, go_sem, d0, d1, d2, d3, d4, d5, d6, d7, d8]; try rfl) rfl ⟨congrArg Ending.returned E.out.symm, X3.out⟩)
end Go.Proofs.YtgnnpfainoppeaaDoor

set_option linter.unusedVariables false
set_option linter.unusedSimpArgs false
set_option maxRecDepth 100000
namespace Go.Proofs.YtgnnpfainoppeaaDoor
open Go.RowKit
open Ve (zs zs_len vw va)

structure RP (w wr : World) (g : Nat) (bs cb : List Int) (v : Value) (o : O) (pv : Value) (cs : List O) : Prop where
  bel : Below w.heap.size w wr
  src : RBx wr w.heap.size bs v
  ob : wr.heap[w.heap.size + 1]? = some (.cells (oCells o) 40 (0, 0))
  res : RBx wr (w.heap.size + 2) zs (.slice none 0 0)
  out : RBx wr g cb pv
  gt : w.heap.size + 2 < g
  row : wr.ownsRow (g + 1) 40 9 pv cs.length (cs9 cs)
theorem own_keep {w w' : World} {B e n size : Nat} {v : Value} {xs : List Value} (h : w.ownsRow B e size v n xs) (hb : Below w.heap.size w w') : w'.ownsRow B e size v n xs := (Far.of_below (P := fun _ => False) hb).row h (fun _ _ q => q)
theorem RP.step {w wr w' : World} {g : Nat} {bs cb : List Int} {v pv : Value} {o : O} {cs : List O} (h : RP w wr g bs cb v o pv cs) (hb : Below wr.heap.size wr w') : RP w w' g bs cb v o pv cs :=
  ⟨h.bel.trans (hb.mono h.bel.size), h.src.step hb, (hb.block _ (lt_of_block h.ob)).trans h.ob, h.res.step hb, h.out.step hb, h.gt, own_keep h.row hb⟩
theorem RP.push {w W : World} {g : Nat} {bs cb : List Int} {v pv : Value} {o : O} {cs : List O} (h : RP w W g bs cb v o pv cs) (hcb : cb.length = 64) (hl : cs.length ≤ 100000) (k : Nat) (x : O) (hk : W.heap[k]? = some (.cells (oCells x) 40 (0, 0))) :
    ∃ a c W1 W2, (Builtin.append_ #[34, 34] 34 #[pv, .slice (some ⟨k, 0, none⟩) 1 1]).run Tryd.prog W = .ok (.slice a (cs.length + 1) c) W1 ∧
      (Instr.storeAt 34 (.pointer (some ⟨g, 64, none⟩)) (.slice a (cs.length + 1) c)).run Tryd.prog W1 = .ok () W2 ∧ RP w W2 g bs cb v o (.slice a (cs.length + 1) c) (cs ++ [x]) := by
  obtain ⟨i0, hi0, hz0, hz1, hz2⟩ := Ve.info_parts info25
  have hgl := lt_of_block h.out
  obtain ⟨v', W1, hr, ho, hgr, hsp⟩ := Wi.run_append_src_own (P := Tryd.prog) W (g + 1) 34 34 34 40 i0 (oV O0) 9 80 Tryd.u27 hi0 hz0 hz1 hz2 rfl (by decide) pv cs.length (cs9 cs) h.row (.slice (some ⟨k, 0, none⟩) 1 1) 1 (cs9 [x]) (one_olies hk).src (by unfold maxLen; omega) (by omega) (by omega)
  obtain ⟨a, c, rfl⟩ := Ve.own_shape ho
  have hf : Far (fun j => pv.ownBlock = some j) W W1 := Far.of_grown hgr (fun k e => e)
  have hlt := own_lt h.row
  have keep : ∀ j, j ≤ g → W1.heap[j]? = W.heap[j]? := fun j hj => hf.block j (by omega) (fun q => by have := (hlt j q).1; omega)
  have hb1 : RBx W1 g cb pv := (keep g (Nat.le_refl _)).trans h.out
  have hgt := h.gt
  have hs : ∀ j, j ≠ g → (W1.setCell ⟨g, 64, none⟩ (.slice a (cs.length + 1) c)).heap[j]? = W1.heap[j]? := fun j hj => heap_setCell_other W1 ⟨g, 64, none⟩ j _ (fun e => hj (by rw [e]))
  have hf2 : Far (fun j => j = g) W1 (W1.setCell ⟨g, 64, none⟩ (.slice a (cs.length + 1) c)) := ⟨rfl, rfl, rfl, by simp [World.setCell], fun j _ hn => hs j hn⟩
  refine ⟨a, c, W1, _, hr, run_storeV W1 g 64 a _ c pv (hb1.cv hcb) (hb1.free _), ?_, ?_, ?_, ?_, hb1.setv hcb, hgt, ?_⟩
  · exact h.bel.trans ((hf.below h.bel.size (fun j q => by have := (hlt j q).1; have := h.bel.size; omega)).trans (hf2.below (by have := h.bel.size; have := hf.size; omega) (fun j q => by have := h.bel.size; subst q; omega)))
  · exact (hs _ (by omega)).trans ((keep _ (by omega)).trans h.src)
  · exact (hs _ (by omega)).trans ((keep _ (by omega)).trans h.ob)
  · exact (hs _ (by omega)).trans ((keep _ (by omega)).trans h.res)
  · rw [List.length_append, cs9_append]
    exact hf2.row ho (fun j e q => by have := (own_lt ho j e).1; omega)
theorem wpList_bs {P : Program} {w : World} {ops : Array Oper} {rest : List Oper} {o : Oper} {a : Act} {Q : Exit → Act → World → Prop} (hgd : o.guard = none) (ty : TypeId) (x : Operand)
    (ho : o.op = .buildSlice ty 1 #[(0, x)]) (xv : Value) (hx : a.eval x = xv) (u : Value) (w' : World) (hr : (Instr.buildSlice ty 1 #[(0, xv)]).run P w = .ok u w')
    (h : wpList P ops Q rest (a.put o.dst u) w') : wpList P ops Q (o :: rest) a w :=
  wpList_plain hgd fun _ hK => by
    unfold Oper.wp execOp
    simp only [ho, List.map_toArray, List.map_cons, List.map_nil, hx, hr, Sem.run_bind, Sem.run_pure, Result.andThen_ok]
    exact hK _ _ h
theorem ret_r2 {fn : Func} {a b g : Nat} {tmps : Array Value} {w : World} {bs : List Int} {v x : Value} (hres : fn.results = #[.cell a 36, .tmp b]) (hb : bs.length = 64)
    (hv : tmps.getD a undef = pvo g 0) (hx : tmps.getD b undef = x) (h : RBx w g bs v) : (results fn tmps).run Tryd.prog w = .ok (.tuple #[.agg (rva bs v), x]) w := by
  have hl : (loadVar 36 ⟨g, 0, none⟩).run Tryd.prog w = .ok (.agg (rva bs v)) w :=
    run_loadVar_row (P := Tryd.prog) w g 36 36 (rva bs v) (0, 0) _ h und36 rfl (by rw [siz36]; unfold rva; rw [List.size_toArray, rvl_len _ _ hb])
  have hv2 : tmps[a]?.getD undef = .pointer (some ⟨g, 0, none⟩) := by simpa using hv
  have hx2 : tmps[b]?.getD undef = x := by simpa using hx
  simp [results, hres, hv2, hx2, asAddr, hl]
end Go.Proofs.YtgnnpfainoppeaaDoor

set_option linter.unusedVariables false
set_option linter.unusedSimpArgs false
set_option maxRecDepth 100000
namespace Go.Proofs.YtgnnpfainoppeaaDoor
open Go.RowKit
open Ve (zs zs_len vw va)

theorem OLies.atG {w : World} {ao : Option Addr} {n cap : Nat} {l : List O} (h : OLies w (.slice ao n cap) l) {i : Nat} (hi : i < n) : ∃ g k o, ao = some ⟨g, k, none⟩ ∧ l[i]? = some o ∧ g < w.heap.size ∧ ∀ j u, (oc o)[j]? = some u → w.cell? ⟨g, k + i * 9 + j, none⟩ = some u := by
  obtain ⟨ao', cap', e, hn, hm, h0, hc⟩ := h
  injection e with e1 e2 e3
  subst e1 e2 e3
  cases ao with
  | none => obtain ⟨rfl, _⟩ := h0 rfl; simp at hi
  | some b =>
    obtain ⟨g, k, rfl, hg, hc⟩ := hc b rfl (ne_of_lt hi)
    have hp := List.getElem?_eq_getElem hi
    exact ⟨g, k, _, rfl, hp, hg, hc i _ hp⟩
theorem find_part (L : Nat → List O) (r q : Int) : (flat L).find? (fun o => decide (o.r = r ∧ o.q = q)) = (partF L r q q).head? := by
  unfold partF
  rw [← List.head?_filter]
  congr 1
  apply List.filter_congr
  intro o _
  unfold inR
  by_cases h1 : o.r = r
  · by_cases h2 : o.q = q
    · simp [h1, h2]
    · rw [decide_eq_false (fun h => h2 h.2)]
      by_cases h3 : q ≤ o.q
      · rw [decide_eq_true h1, decide_eq_true h3, decide_eq_false (show ¬ o.q ≤ q by omega)]; rfl
      · rw [decide_eq_true h1, decide_eq_false h3]; rfl
  · rw [decide_eq_false (fun h => h1 h.1), decide_eq_false h1]; rfl
theorem rgetO_part (L : Nat → List O) (r q : Int) : rgetO (flat L) r q = getO L r q := by
  unfold rgetO getO
  rw [find_part]
  cases partF L r q q <;> rfl
theorem ix34 {g o n cap i : Nat} (h : i < n) (hn : n ≤ 9223372036854775807) (W : World) : (Instr.indexAt 34 (.slice (some ⟨g, o, none⟩) n cap) (.int .i64 (i : Int))).run Tryd.prog W = .ok (pvo g (o + i * 9)) W := by
  have h0 : (0 : Int) ≤ (i : Int) := by omega
  have h1 : (i : Int) < (n : Int) := by omega
  go_simp
theorem Gd.rr {bs : List Int} {L : Nat → List O} {m : Nat} (g : Gd bs L m) : ∀ o ∈ flat L, 0 ≤ o.r ∧ o.r < 64 := by
  intro o ho
  obtain ⟨k, hk, ho⟩ := mem_flat ho
  rw [g.rep k hk o ho]; omega
theorem Gd.small {bs : List Int} {L : Nat → List O} {m : Nat} (g : Gd bs L m) : Small bs 0 := ⟨g.len, fun i x hx => by have := g.bb i x hx; omega⟩
/-- What the reference's Put hands back. -/
def RPOut (w w' : World) (bs : List Int) (L : Nat → List O) (o : O) (v : Value) (e : Ending) (n : Int) : Prop := ∃ v', e = .returned (.tuple #[.agg (rva bs v'), .int .i64 n]) ∧ ((v' = v ∧ putL bs L o = L) ∨ w'.ownsRow w.heap.size 40 9 v' (flat (putL bs L o)).length (cs9 (flat (putL bs L o)))) ∧ Below w.heap.size w w'
theorem foldS_len (o : O) : ∀ (l : List O) (s : List O × Bool), (l.foldl (putS o) s).1.length ≤ s.1.length + 2 * l.length
  | [], s => by simp
  | x :: l, s => by
    have h := foldS_len o l (putS o s x)
    have h2 : (putS o s x).1.length ≤ s.1.length + 2 := by unfold putS; split <;> simp
    rw [List.foldl_cons, List.length_cons]
    omega
set_option maxHeartbeats 12800000 in
theorem rput_any (w : World) (bs : List Int) (L : Nat → List O) (m : Nat) (g : Gd bs L m) (hm : m ≤ 500) (v : Value) (hv : OLies w v (flat L)) (o : O) (hz : o.nm.size ≤ 1000000) :
    Calls Tryd.prog 12 #[.agg (rva bs v), oV o] w fun e w' => RPOut w w' bs L o v e (putI bs L o) := by
  have hb := g.len
  have GH := Lib.hid g
  have V := Lib.hid hv
  have HB := Lib.hid hb
  have X1 := vstep w (.cells (rva bs v) 36)
  have R1 : RBx (w.alloc (.cells (rva bs v) 36)) w.heap.size bs v := heap_alloc_new w _
  have s1 : (w.alloc (.cells (rva bs v) 36)).heap.size = w.heap.size + 1 := by simp
  have X2 := vstep (w.alloc (.cells (rva bs v) 36)) (.cells (oCells o) 40)
  have N2 := heap_alloc_new (w.alloc (.cells (rva bs v) 36)) (.cells (oCells o) 40)
  have s2 : ((w.alloc (.cells (rva bs v) 36)).alloc (.cells (oCells o) 40)).heap.size = w.heap.size + 2 := by simp
  have AZ := alloc36 ((w.alloc (.cells (rva bs v) 36)).alloc (.cells (oCells o) 40))
  have X3 := vstep ((w.alloc (.cells (rva bs v) 36)).alloc (.cells (oCells o) 40)) (.cells (rva zs (.slice none 0 0)) 36)
  have N3 : RBx (((w.alloc (.cells (rva bs v) 36)).alloc (.cells (oCells o) 40)).alloc (.cells (rva zs (.slice none 0 0)) 36)) ((w.alloc (.cells (rva bs v) 36)).alloc (.cells (oCells o) 40)).heap.size zs (.slice none 0 0) := heap_alloc_new _ _
  rw [s1] at N2
  rw [s2] at AZ N3
  obtain ⟨W0, hW0⟩ : ∃ z, ((w.alloc (.cells (rva bs v) 36)).alloc (.cells (oCells o) 40)).alloc (.cells (rva zs (.slice none 0 0)) 36) = z := ⟨_, rfl⟩
  rw [hW0] at AZ X3 N3
  have RA := Lib.hid ((R1.step X2).step X3)
  have RO := Lib.hid ((X3.block _ (by omega)).trans N2)
  have RS := Lib.hid N3
  have X := Lib.hid ((X1.trans (X2.mono (by omega))).trans (X3.mono (by omega)))
  have AZH := Lib.hid AZ
  have LR := Lib.hid (fun W (h : RBx W w.heap.size bs v) => h.ldR hb)
  have LB := Lib.hid (fun W (h : RBx W w.heap.size bs v) => h.ldB hb)
  have LO := Lib.hid (fun (W : World) (h : W.heap[w.heap.size + 1]? = some (.cells (oCells o) 40 (0, 0))) => ldO (box_o h))
  have RG : Hid (∀ W : World, Calls Tryd.prog 32 #[oV o] W fun e w' => e = .returned (.bool (rO o)) ∧ Below W.heap.size W w') := Lib.hid (fun W => Go.Proofs.YtgnnpfainoppeaaDoor.rright_any W o.t o.r o.q o.nt o.nr o.pt o.pr o.nm o.d hz)
  have KN := Lib.hid (fun W (hb : Below w.heap.size w W) => (show Calls Tryd.prog 33 #[.agg (rva bs v)] W fun e w' => e = .returned (.agg (va (kn bs L))) ∧ Below W.heap.size W w' from by
    have := rknown_any W bs g.small v (flat L) (hv.step hb) g.rr (by have := flat_le g; omega)
    rwa [kn_flat g] at this))
  have GT := Lib.hid (fun W (hb : Below w.heap.size w W) r q => (show Calls Tryd.prog 18 #[.agg (rva bs v), .int .i64 r, .int .i64 q] W fun e w' => e = .returned (getO L r q) ∧ Below W.heap.size W w' from by
    have := rget_any W bs g.len v (flat L) (hv.step hb) r q
    rwa [rgetO_part] at this))
  have B36 := Lib.hid (fun W => build36 W bs hb)
  have SR := Lib.hid (fun W (h : RBx W (w.heap.size + 2) zs (.slice none 0 0)) (u : Value) (hu : u.oneCell' = true) => store36 W (w.heap.size + 2) zs bs (.slice none 0 0) u zs_len hb hu h)
  have RET := Lib.hid (fun W (X : Below w.heap.size w W) (h : RBx W (w.heap.size + 2) zs (.slice none 0 0)) n (hn : putI bs L o = n) (h0 : n ≠ 0) => (show RPOut w (W.setRow (w.heap.size + 2) (rva bs v)) bs L o v (.returned (.tuple #[.agg (rva bs v), .int .i64 n])) (putI bs L o) from by
    have X2 := Ve.below_setRow X (g := w.heap.size + 2) (by omega) (rva bs v)
    exact ⟨v, by rw [hn], .inl ⟨rfl, by unfold putL; rw [if_neg (by rw [hn]; exact h0)]⟩, X2⟩))
  have VO := Lib.hid hv.one
  have hOV : oV o = .agg (oCells o) := rfl
  obtain ⟨OA, hOA⟩ : ∃ OA, oCells o = OA := ⟨_, rfl⟩
  have HOA := Lib.hid hOA
  have HOV := Lib.hid (show oV o = .agg OA by rw [hOV, hOA])
  rw [HOV.out]
  rw [hOA] at AZH
  obtain ⟨A, hA⟩ : ∃ A, rva bs v = A := ⟨_, rfl⟩
  rw [hA] at AZH LR KN GT RET ⊢
  have HA := Lib.hid hA
  clear hA hOA hOV hb X1 R1 s1 X2 N2 s2 AZ X3 N3 hW0 hv g hz
  go_enter Tryd.func12, Tryd.ntmps12
  have O0 := Lib.hid (LO.out _ RO.out)
  go_wp2_with (first | refine Ve.wpList_alloc_arr rfl 36 rfl _ _ AZH.out ?_ | refine wpList_ld rfl (.tmp 3) 40 rfl (pvo (w.heap.size + 1) 0) (oV o) rfl O0.out ?_)
  refine (RG.out _).mono ?_
  rintro e w1 ⟨rfl, hb1⟩
  have X1 := Lib.hid (X.out.trans (hb1.mono X.out.size))
  have RA1 := Lib.hid (RA.out.step hb1)
  have RO1 := Lib.hid ((hb1.block _ (lt_of_block RO.out)).trans RO.out)
  have RS1 := Lib.hid (RS.out.step hb1)
  clear hb1 O0
  cases hr : rO o with
  | false =>
    have E := Lib.hid (show putI bs L o = 2 by unfold putI; rw [hr]; rfl)
    have L1 := Lib.hid (LR.out _ RA1.out)
    have S1 := Lib.hid (SR.out _ RS1.out v VO.out)
    rw [HA.out] at S1
    have F := Lib.hid (RET.out _ X1.out RS1.out 2 E.out (by decide))
    have RR := Lib.hid (show RBx (w1.setRow (w.heap.size + 2) A) (w.heap.size + 2) bs v by rw [← HA.out]; exact RS1.out.row)
    clear hr
    go_wp2_with (first | refine wpList_ld rfl (.tmp 2) 36 rfl (pvo w.heap.size 0) (.agg A) rfl L1.out ?_ | refine Ve.wpList_store_arr rfl (.tmp 4) (.tmp 16) 36 rfl (pvo (w.heap.size + 2) 0) (.agg A) rfl rfl _ S1.out ?_ |
      exact bodyPost_ret (ret_r2 (g := w.heap.size + 2) rfl HB.out rfl rfl RR.out) rfl (by rw [HA.out]; exact F.out))
  | true =>
    obtain ⟨ft, fr, fq⟩ := rO_facts hr
    have kl := kn_le GH.out (by omega) o.r fr
    obtain ⟨q, hq⟩ : ∃ q : Nat, o.r = (q : Int) := ⟨o.r.toNat, by omega⟩
    have hq64 : q < 64 := by omega
    obtain ⟨n, hn⟩ : ∃ n, knO bs L o.r = n := ⟨_, rfl⟩
    have PI := Lib.hid (show putI bs L o = (if o.q ≤ n then 9 else if n + 1 < o.q then 10 else if lateB L o n then 4 else 0) by unfold putI; rw [hr, hn]; rfl)
    rw [hn] at kl
    have hkq : (kn bs L)[q]? = some n := by
      have : q < (kn bs L).length := by rw [kn_len]; exact hq64
      rw [List.getElem?_eq_getElem this, ← hn]
      unfold knO
      rw [hq, Int.toNat_natCast, getD_some (List.getElem?_eq_getElem this)]
    have L1 := Lib.hid (LR.out _ RA1.out)
    have K1 := Lib.hid (KN.out _ X1.out)
    have HQ := Lib.hid hq
    have KL := Lib.hid kl
    have HKQ := Lib.hid hkq
    have LT := Lib.hid (show lateB L o n = (match partF L (q : Int) n n with | [] => false | p :: _ => decide (o.t ≤ p.t)) by unfold lateB; rw [hq]; rfl)
    obtain ⟨KA, hKA⟩ : ∃ KA, va (kn bs L) = KA := ⟨_, rfl⟩
    rw [hKA] at K1
    have HKA := Lib.hid hKA
    clear hr ft fr fq hq hn kl hkq hKA KN
    go_wp2_with (first | refine wpList_ld rfl (.tmp 2) 36 rfl (pvo w.heap.size 0) (.agg A) rfl L1.out ?_)
    refine K1.out.mono ?_
    rintro e w2 ⟨rfl, hb2⟩
    have A6 := Ve.alloc_va z26 w2
    have N6 := heap_alloc_new w2 (.cells (va zs) 26)
    have S6 := Ve.store_va v26 (w2.alloc (.cells (va zs) 26)) w2.heap.size (va zs) (by rw [Ve.va_size, zs_len]) (kn bs L) (kn_len _ _) N6
    have M6 := setRow_heap (w2.alloc (.cells (va zs) 26)) w2.heap.size (va zs) (va (kn bs L)) 26 (0, 0) N6
    have B6 := Ve.below_setRow (vstep w2 (.cells (va zs) 26)) (g := w2.heap.size) (Nat.le_refl _) (va (kn bs L))
    obtain ⟨w3, hw3⟩ : ∃ z, (w2.alloc (.cells (va zs) 26)).setRow w2.heap.size (va (kn bs L)) = z := ⟨_, rfl⟩
    rw [hw3] at S6 M6 B6
    have B3 := hb2.trans (B6.mono hb2.size)
    have X3 := Lib.hid (X1.out.trans (B3.mono X1.out.size))
    have RA3 := Lib.hid (RA1.out.step B3)
    have RO3 := Lib.hid ((B3.block _ (lt_of_block RO1.out)).trans RO1.out)
    have RS3 := Lib.hid (RS1.out.step B3)
    have A6H := Lib.hid A6
    have S6H := Lib.hid (show (Instr.storeAt 26 (.pointer (some ⟨w2.heap.size, 0, none⟩)) (.agg KA)).run Tryd.prog (w2.alloc (.cells (va zs) 26)) = .ok () w3 by rw [← HKA.out]; exact S6)
    have c6 := Ve.cell_va M6 HKQ.out
    obtain ⟨a0, a1, a2⟩ := box3 RO3.out
    rw [HQ.out] at a1
    have kl0 := KL.out.1
    have kl1 := KL.out.2.1
    have hnw : wrap64 (n + 1) = n + 1 := by unfold wrap64; omega
    have hi0 : (0 : Int) ≤ (q : Int) := by omega
    have hi1 : (q : Int) < 64 := by omega
    have L3 := Lib.hid (LR.out _ RA3.out)
    have S3 := Lib.hid (SR.out _ RS3.out v VO.out)
    rw [HA.out] at S3
    have RR := Lib.hid (show RBx (w3.setRow (w.heap.size + 2) A) (w.heap.size + 2) bs v by rw [← HA.out]; exact RS3.out.row)
    clear hb2 A6 N6 S6 M6 B6 hw3 B3 kl0 kl1 X1 RA1 RO1 RS1 L1 K1
    by_cases q1 : o.q ≤ n
    · have E := Lib.hid (show putI bs L o = 9 by rw [PI.out, if_pos q1])
      have F := Lib.hid (RET.out _ X3.out RS3.out 9 E.out (by decide))
      go_wp2_with (first | refine Ve.wpList_alloc_arr rfl 26 rfl _ _ A6H.out ?_ | refine Ve.wpList_store_arr rfl (.tmp 6) (.tmp 18) 26 rfl (pvo w2.heap.size 0) (.agg KA) rfl rfl _ S6H.out ?_ | refine wpList_ld rfl (.tmp 2) 36 rfl (pvo w.heap.size 0) (.agg A) rfl L3.out ?_ | refine Ve.wpList_store_arr rfl (.tmp 4) (.tmp 28) 36 rfl (pvo (w.heap.size + 2) 0) (.agg A) rfl rfl _ S3.out ?_ |
        exact bodyPost_ret (ret_r2 (g := w.heap.size + 2) rfl HB.out rfl rfl RR.out) rfl (by rw [HA.out]; exact F.out))
    · by_cases q2 : n + 1 < o.q
      · have E := Lib.hid (show putI bs L o = 10 by rw [PI.out, if_neg q1, if_pos q2])
        have F := Lib.hid (RET.out _ X3.out RS3.out 10 E.out (by decide))
        go_wp2_with (first | refine Ve.wpList_alloc_arr rfl 26 rfl _ _ A6H.out ?_ | refine Ve.wpList_store_arr rfl (.tmp 6) (.tmp 18) 26 rfl (pvo w2.heap.size 0) (.agg KA) rfl rfl _ S6H.out ?_ | refine wpList_ld rfl (.tmp 2) 36 rfl (pvo w.heap.size 0) (.agg A) rfl L3.out ?_ | refine Ve.wpList_store_arr rfl (.tmp 4) (.tmp 34) 36 rfl (pvo (w.heap.size + 2) 0) (.agg A) rfl rfl _ S3.out ?_ |
          exact bodyPost_ret (ret_r2 (g := w.heap.size + 2) rfl HB.out rfl rfl RR.out) rfl (by rw [HA.out]; exact F.out))
      · have PI2 := Lib.hid (show putI bs L o = if lateB L o n then 4 else 0 by rw [PI.out, if_neg q1, if_neg q2])
        have GT2 := GT.out w3 X3.out (q : Int) n
        unfold getO at GT2
        obtain ⟨pl, hpl⟩ : ∃ pl, partF L (q : Int) n n = pl := ⟨_, rfl⟩
        rw [hpl] at GT2 LT
        obtain ⟨p, hp⟩ : ∃ p, firstO pl = p := ⟨_, rfl⟩
        obtain ⟨ok, hok⟩ : ∃ ok, (!pl.isEmpty) = ok := ⟨_, rfl⟩
        rw [hp, hok] at GT2
        have HOP := Lib.hid (show oV p = .agg (oCells p) from rfl)
        obtain ⟨Ap, hAp⟩ : ∃ Ap, oCells p = Ap := ⟨_, rfl⟩
        have HAP := Lib.hid hAp
        rw [HOP.out, hAp] at GT2
        have GT3 := Lib.hid GT2
        have LT2 := Lib.hid (show lateB L o n = (ok && decide (o.t ≤ p.t)) by
          rw [LT.out, ← hok, ← hp]; cases pl <;> rfl)
        clear hpl hp hok GT2 LT hAp
        go_wp2_with (first | refine Ve.wpList_alloc_arr rfl 26 rfl _ _ A6H.out ?_ | refine Ve.wpList_store_arr rfl (.tmp 6) (.tmp 18) 26 rfl (pvo w2.heap.size 0) (.agg KA) rfl rfl _ S6H.out ?_ | refine wpList_ld rfl (.tmp 2) 36 rfl (pvo w.heap.size 0) (.agg A) rfl L3.out ?_)
        refine GT3.out.mono ?_
        rintro e w4 ⟨rfl, hb4⟩
        have AL := Lib.hid (alloc40 w4)
        have N4 := heap_alloc_new w4 (.cells (oCells O0) 40)
        have SO := Lib.hid (store_o (w4.alloc (.cells (oCells O0) 40)) w4.heap.size O0 p N4)
        have R5 := setRow_heap _ _ _ (oCells p) _ _ N4
        have B5 := Ve.below_setRow (vstep w4 (.cells (oCells O0) 40)) (g := w4.heap.size) (Nat.le_refl _) (oCells p)
        obtain ⟨wp, hwp⟩ : ∃ zz, (w4.alloc (.cells (oCells O0) 40)).setRow w4.heap.size (oCells p) = zz := ⟨_, rfl⟩
        rw [hwp] at SO R5 B5
        rw [HOP.out, HAP.out] at SO
        have BB := hb4.trans (B5.mono hb4.size)
        have X5 := Lib.hid (X3.out.trans (BB.mono X3.out.size))
        have RA5 := Lib.hid (RA3.out.step BB)
        have RO5 := Lib.hid ((BB.block _ (lt_of_block RO3.out)).trans RO3.out)
        have RS5 := Lib.hid (RS3.out.step BB)
        obtain ⟨p0, p1, p2⟩ := box3 R5
        clear a0 a1 a2 hnw c6 hi0 hi1
        obtain ⟨a0, a1, a2⟩ := box3 RO5.out
        clear N4 R5 B5 hwp p1 p2 a1 hb4 BB RA3 RO3 RS3 L3 S3 RR GT3
        cases hlate : (ok && decide (o.t ≤ p.t)) with
        | true =>
          have E := Lib.hid (show putI bs L o = 4 by rw [PI2.out, LT2.out, hlate]; rfl)
          have F := Lib.hid (RET.out _ X5.out RS5.out 4 E.out (by decide))
          have L5 := Lib.hid (LR.out _ RA5.out)
          have S5 := Lib.hid (SR.out _ RS5.out v VO.out)
          rw [HA.out] at S5
          have RR := Lib.hid (show RBx (wp.setRow (w.heap.size + 2) A) (w.heap.size + 2) bs v by rw [← HA.out]; exact RS5.out.row)
          obtain ⟨e1, e2⟩ := Bool.and_eq_true_iff.1 hlate
          subst e1
          have e3 := of_decide_eq_true e2
          clear hlate e2 q1 q2
          go_wp2_with (first | refine Ve.wpList_alloc_arr rfl 40 rfl _ _ AL.out ?_ | refine Ve.wpList_store_arr rfl (.tmp 8) (.tmp 42) 40 rfl (pvo w4.heap.size 0) (.agg Ap) rfl rfl _ SO.out ?_ | refine wpList_ld rfl (.tmp 2) 36 rfl (pvo w.heap.size 0) (.agg A) rfl L5.out ?_ | refine Ve.wpList_store_arr rfl (.tmp 4) (.tmp 54) 36 rfl (pvo (w.heap.size + 2) 0) (.agg A) rfl rfl _ S5.out ?_ |
            exact bodyPost_ret (ret_r2 (g := w.heap.size + 2) rfl HB.out rfl rfl RR.out) rfl (by rw [HA.out]; exact F.out))
        | false =>
          have E := Lib.hid (show putI bs L o = 0 by rw [PI2.out, LT2.out, hlate]; rfl)
          have hc : ok = false ∨ (ok = true ∧ ¬ o.t ≤ p.t) := by
            cases ok with
            | false => exact .inl rfl
            | true => exact .inr ⟨rfl, by simpa using hlate⟩
          have PF := Lib.hid (show flat (putL bs L o) = putR (flat L) o by
            unfold putL
            rw [if_pos E.out, HQ.out, Int.toNat_natCast]
            exact (put_flat L GH.out.rep o q (by have := hq64; omega) HQ.out).symm)
          have FLE := Lib.hid (flat_le GH.out)
          clear hlate q1 q2
          go_upto_region 10 with (first | refine Ve.wpList_alloc_arr rfl 40 rfl _ _ AL.out ?_ | refine Ve.wpList_store_arr rfl (.tmp 8) (.tmp 42) 40 rfl (pvo w4.heap.size 0) (.agg Ap) rfl rfl _ SO.out ?_)
          go_cut [53] from 44 to 53 (fun xv wx => xv = .bool false ∧ wx = wp)
          case first =>
            rcases hc with rfl | ⟨rfl, hc⟩
            · go_wp2_with fail
              go_meet
              exact ⟨rfl, rfl⟩
            · go_wp2_with fail
              go_meet
              exact ⟨by first | rfl | rw [decide_eq_false (show ¬ o.t ≤ p.t by omega)], rfl⟩
          case rest =>
            obtain ⟨rfl, rfl⟩ := hcut
            have L12 := Lib.hid (LB.out _ RA5.out)
            have A10 := Lib.hid (alloc36 wc)
            have N10 : RBx (wc.alloc (.cells (rva zs (.slice none 0 0)) 36)) wc.heap.size zs (.slice none 0 0) := heap_alloc_new wc _
            have S10 := Lib.hid (store36 (wc.alloc (.cells (rva zs (.slice none 0 0)) 36)) wc.heap.size zs bs (.slice none 0 0) (.slice none 0 0) zs_len HB.out rfl N10)
            have B10 := Ve.below_setRow (vstep wc (.cells (rva zs (.slice none 0 0)) 36)) (g := wc.heap.size) (Nat.le_refl _) (rva bs (.slice none 0 0))
            have M10 := N10.row (cs := bs) (v := .slice none 0 0)
            obtain ⟨w10, hw10⟩ : ∃ z, (wc.alloc (.cells (rva zs (.slice none 0 0)) 36)).setRow wc.heap.size (rva bs (.slice none 0 0)) = z := ⟨_, rfl⟩
            rw [hw10] at S10 B10 M10
            have X10 := X5.out.trans (B10.mono X5.out.size)
            obtain ⟨g10, hg10⟩ : ∃ g, wc.heap.size = g := ⟨_, rfl⟩
            have RP0 := Lib.hid (show RP w w10 wc.heap.size bs bs v o (.slice none 0 0) [] from ⟨X10, RA5.out.step B10, (B10.block _ (lt_of_block RO5.out)).trans RO5.out, RS5.out.step B10, M10, lt_of_block RS5.out, World.ownsRow_nil _ _ _ _⟩)
            rw [hg10] at RP0 A10 S10
            obtain ⟨VB, hVB⟩ : ∃ VB, va bs = VB := ⟨_, rfl⟩
            obtain ⟨RN, hRN⟩ : ∃ RN, rva bs (.slice none 0 0) = RN := ⟨_, rfl⟩
            rw [hVB] at L12 B36
            rw [hRN] at B36 S10
            clear hVB hRN hw10 N10 B10 M10 X10 hg10 hc
            go_wp2_with (first | refine Ve.wpList_load_arr rfl (.tmp 55) 26 rfl (pvo w.heap.size 0) (.agg VB) rfl L12.out ?_ | refine wpList_build_1 rfl 36 0 (.tmp 56) rfl (.agg VB) rfl (.agg RN) (B36.out _) ?_ | refine Ve.wpList_alloc_arr rfl 36 rfl _ _ A10.out ?_ | refine Ve.wpList_store_arr rfl (.tmp 10) (.tmp 57) 36 rfl (pvo g10 0) (.agg RN) rfl rfl _ S10.out ?_)
            clear L12 A10 S10 B36
            obtain ⟨l, hl⟩ : ∃ l, flat L = l := ⟨_, rfl⟩
            rw [hl] at PF V FLE
            have hll := V.out.len
            obtain ⟨ao, cap, rfl⟩ := V.out.shape
            clear hl
            go_loopw [11, 12] (fun dv iv wr => ∃ (i : Nat) (dn : Bool) (cs : List O), iv = .int .i64 i ∧ i ≤ l.length ∧ dv = .bool dn ∧ Hid ((l.take i).foldl (putS o) ([], false) = (cs, dn) ∧ ∃ pv, RP w wr g10 bs bs (.slice ao l.length cap) o pv cs)) (fun _ iv _ => l.length - (intOf iv).toNat)
            case atStart => exact ⟨0, false, [], rfl, Nat.zero_le _, rfl, Lib.hid ⟨rfl, _, RP0.out⟩⟩
            case round =>
              obtain ⟨i, dn, cs, rfl, hi, rfl, hI⟩ := hrel
              obtain ⟨hF, pv0, hP⟩ := hI.out
              have CV := hP.src.cv HB.out
              have hcl : cs.length ≤ 2 * l.length := by
                have := foldS_len o (l.take i) ([], false)
                rw [hF] at this
                have h2 : (l.take i).length ≤ l.length := by rw [List.length_take]; omega
                simp at this
                omega
              have HCL := Lib.hid (show cs.length ≤ 90000 by have := FLE.out; omega)
              clear hcl
              by_cases hlt : i < l.length
              · obtain ⟨kb, off, x, rfl, hx, hk, hc⟩ := (V.out.step hP.bel).atG hlt
                have HX := Lib.hid hx
                have hi0 : (0 : Int) ≤ (i : Int) := by omega
                have hi1 : (i : Int) < (l.length : Int) := by omega
                obtain ⟨cnd, hcnd⟩ : ∃ cnd, (!dn && decide (o.r < x.r)) = cnd := ⟨_, rfl⟩
                have x1 := hc 1 _ rfl
                obtain ⟨a0, a1, a2⟩ := box3 hP.ob
                have hcase : (dn = true ∧ cnd = false) ∨ (dn = false ∧ o.r < x.r ∧ cnd = true) ∨ (dn = false ∧ ¬ o.r < x.r ∧ cnd = false) := by
                  cases dn with
                  | true => exact .inl ⟨rfl, by rw [← hcnd]; rfl⟩
                  | false =>
                    by_cases h : o.r < x.r
                    · exact .inr (.inl ⟨rfl, h, by rw [← hcnd, decide_eq_true h]; rfl⟩)
                    · exact .inr (.inr ⟨rfl, h, by rw [← hcnd, decide_eq_false h]; rfl⟩)
                have FS := Lib.hid (show (l.take (i + 1)).foldl (putS o) ([], false) = (if cnd then (cs ++ [o] ++ [x], true) else (cs ++ [x], dn)) by
                  rw [Ve.take_snoc' l i x hx, List.foldl_append, hF]
                  show putS o (cs, dn) x = _
                  unfold putS
                  rw [hcnd])
                have HP := Lib.hid hP
                clear hF hP hI hx hk hcnd
                go_upto_region 17 with fail
                go_cut [79] from 65 to 79 (fun xv wx => xv = .bool cnd ∧ Hid (Below wr.heap.size wr wx))
                case first =>
                  rcases hcase with ⟨rfl, rfl⟩ | ⟨rfl, h, rfl⟩ | ⟨rfl, h, rfl⟩
                  all_goals
                    go_quiet (fail)
                    go_wp2_with fail
                    go_meet
                    exact ⟨by first | rfl | simp [h], Lib.hid (Wi.below_drewN _ _)⟩
                case rest =>
                  obtain ⟨rfl, hW⟩ := hcut
                  have P1 := Lib.hid (HP.out.step hW.out)
                  clear x1 a0 a1 a2 HP hW hc CV hcase
                  have IX := Lib.hid (fun W => ix34 (g := kb) (o := off) (cap := cap) hlt hll W)
                  have XC := Lib.hid (fun W (hb : Below w.heap.size w W) => (show (Instr.loadAt 40 (.pointer (some ⟨kb, off + i * 9, none⟩))).run Tryd.prog W = .ok (oV x) W from by
                    obtain ⟨g', k', x', e, hx', _, hc'⟩ := (V.out.step hb).atG hlt
                    injection e with e; injection e with e1 e2; subst e1 e2
                    rw [HX.out] at hx'; injection hx' with hx'; subst hx'
                    exact ldO hc'))
                  cases cnd with
                  | true =>
                    have FS2 := Lib.hid (show (l.take (i + 1)).foldl (putS o) ([], false) = ((cs ++ [o]) ++ [x], true) from FS.out)
                    have CV1 := P1.out.out.cv HB.out
                    obtain ⟨pa, pc, hpv⟩ := Ve.own_shape P1.out.row
                    have L1 := Lib.hid (show (Instr.loadAt 34 (pvo g10 64)).run Tryd.prog wc = .ok pv0 wc by rw [hpv] at CV1 ⊢; exact ldV CV1)
                    have L2 := Lib.hid (LO.out _ P1.out.ob)
                    have BS1 := Lib.hid (bsO wc o)
                    have VE1 := vstep wc (.cells (oCells o) 40)
                    obtain ⟨a1, c1, u1, u2, hr1, hs1, hp1⟩ := (P1.out.step VE1).push HB.out (by have := HCL.out; omega) wc.heap.size o (heap_alloc_new wc (.cells (oCells o) 40))
                    obtain ⟨we1, hwe1⟩ : ∃ z, wc.alloc (.cells (oCells o) 40) = z := ⟨_, rfl⟩
                    rw [hwe1] at BS1 hr1
                    have HR1 := Lib.hid hr1
                    have HS1 := Lib.hid hs1
                    have P2 := Lib.hid hp1
                    clear hwe1
                    rw [HOV.out] at BS1 L2
                    clear CV1 hpv VE1 hr1 hs1 hp1 FS
                    go_upto_region 20 with (first | (refine wpList_ld rfl (.tmp 80) 34 rfl (pvo g10 64) pv0 rfl L1.out ?_; simp only [Act.put, List.setIfInBounds_toArray, List.set_cons_zero, List.set_cons_succ]) | (refine wpList_ld rfl (.tmp 3) 40 rfl (pvo (w.heap.size + 1) 0) (.agg OA) rfl L2.out ?_; simp only [Act.put, List.setIfInBounds_toArray, List.set_cons_zero, List.set_cons_succ]) | (refine wpList_bs rfl 34 (.tmp 82) rfl (.agg OA) rfl (.slice (some ⟨wc.heap.size, 0, none⟩) 1 1) _ BS1.out ?_; simp only [Act.put, List.setIfInBounds_toArray, List.set_cons_zero, List.set_cons_succ]) | (at_builtin; refine Lib.wpList_append_run _ rfl (.tmp 81) (.tmp 83) 34 34 rfl pv0 (.slice (some ⟨wc.heap.size, 0, none⟩) 1 1) rfl rfl _ _ HR1.out ?_; simp only [Act.put, List.setIfInBounds_toArray, List.set_cons_zero, List.set_cons_succ]) | refine Ve.wpList_store_arr rfl (.tmp 85) (.tmp 84) 34 rfl (pvo g10 64) (.slice a1 (cs.length + 1) c1) rfl rfl _ HS1.out ?_)
                    clear L1 L2 BS1 HR1 HS1 P1
                    obtain ⟨p0, hp0⟩ : ∃ p0, Value.slice a1 (cs.length + 1) c1 = p0 := ⟨_, rfl⟩
                    rw [hp0] at P2
                    clear hp0
                    have HC2 := Lib.hid (show (cs ++ [o]).length ≤ 90001 by rw [List.length_append]; have := HCL.out; simp; omega)
                    obtain ⟨cs0, hcs0⟩ : ∃ cs0, cs ++ [o] = cs0 := ⟨_, rfl⟩
                    rw [hcs0] at P2 FS2 HC2
                    clear hcs0
                    obtain ⟨wd, hwd⟩ : ∃ zz, u2.drew = zz := ⟨_, rfl⟩
                    have BD : Below u2.heap.size u2 wd := by rw [← hwd]; exact (Below.refl _ _).drew
                    have HWD := Lib.hid hwd
                    have PD := Lib.hid (P2.out.step BD)
                    have CVd := PD.out.out.cv HB.out
                    obtain ⟨pa2, pc2, hpv2⟩ := Ve.own_shape PD.out.row
                    have LD1 := Lib.hid (show (Instr.loadAt 34 (pvo g10 64)).run Tryd.prog wd = .ok p0 wd by rw [hpv2] at CVd ⊢; exact ldV CVd)
                    have LD3 := Lib.hid (ldV (PD.out.src.cv HB.out))
                    have LD6 := Lib.hid (XC.out _ PD.out.bel)
                    have BS := Lib.hid (bsO wd x)
                    have VE := vstep wd (.cells (oCells x) 40)
                    have NE := heap_alloc_new wd (.cells (oCells x) 40)
                    have PE := PD.out.step VE
                    have CVe := PE.out.cv HB.out
                    obtain ⟨we, hwe⟩ : ∃ zz, wd.alloc (.cells (oCells x) 40) = zz := ⟨_, rfl⟩
                    rw [hwe] at BS VE NE PE CVe
                    have LD1e := Lib.hid (show (Instr.loadAt 34 (pvo g10 64)).run Tryd.prog we = .ok p0 we by rw [hpv2] at CVe ⊢; exact ldV CVe)
                    obtain ⟨a5, c5, w5, w6, hr5, hs5, hp5⟩ := PE.push HB.out (by have := HC2.out; omega) wd.heap.size x NE
                    have HR := Lib.hid hr5
                    have HS := Lib.hid hs5
                    have FIN := Lib.hid (show _ ∧ ∃ pv, RP w w6 g10 bs bs _ o pv _ from ⟨FS2.out, _, hp5⟩)
                    clear CVd hpv2 VE NE PE CVe hwe hr5 hs5 hp5 hwd BD
                    refine wp_region_held_drew (S := fun _ => True) (by kernel_rfl) trivial (fun _ => ?_)
                    rw [HWD.out]
                    refine take_at (i := 0) 86 ?_ rfl rfl (by kernel_rfl) (by kernel_rfl) (by kernel_rfl) (fun _ _ _ h => h) (.inl ⟨rfl, ?_⟩) trivial ?_
                    rotate_left 1
                    · intro w hSw; go_simp; try with_reducible rfl
                    simp only [Act.put, List.setIfInBounds_toArray, List.set_cons_zero, List.set_cons_succ]
                    refine take_at (i := 2) 88 ?_ rfl rfl (by kernel_rfl) (by kernel_rfl) (by kernel_rfl) (fun _ _ _ h => h) (.inl ⟨rfl, ?_⟩) trivial ?_
                    rotate_left 1
                    · intro w hSw; go_simp; try with_reducible rfl
                    simp only [Act.put, List.setIfInBounds_toArray, List.set_cons_zero, List.set_cons_succ]
                    refine take_at (i := 4) 90 ?_ rfl rfl (by kernel_rfl) (by kernel_rfl) (by kernel_rfl) (fun _ _ _ h => h) (.inl ⟨rfl, ?_⟩) trivial ?_
                    rotate_left 1
                    · intro w hSw; go_simp; try with_reducible rfl
                    simp only [Act.put, List.setIfInBounds_toArray, List.set_cons_zero, List.set_cons_succ]
                    refine wpAnyH_ready (rs := [1, 3]) (by kernel_rfl) (by simp) (br_load (i := 1) 87 (.tmp 86) 34 _ (p0) rfl rfl rfl rfl rfl (LD1.out) trivial (fun _ => ?_) (br_load (i := 3) 89 (.tmp 88) 34 _ (.slice (some ⟨kb, off, none⟩) l.length cap) rfl rfl rfl rfl rfl (LD3.out) trivial (fun _ => ?_) AllReadyH.nil))
                    · simp only [Act.put, List.setIfInBounds_toArray, List.set_cons_zero, List.set_cons_succ]
                      refine wpAnyH_ready (rs := [3]) (by kernel_rfl) (by simp) (br_load (i := 3) 89 (.tmp 88) 34 _ (.slice (some ⟨kb, off, none⟩) l.length cap) rfl rfl rfl rfl rfl (LD3.out) trivial (fun _ => ?_) AllReadyH.nil)
                      simp only [Act.put, List.setIfInBounds_toArray, List.set_cons_zero, List.set_cons_succ]
                      refine take_at (i := 5) 91 (pvo kb (off + i * 9)) rfl rfl (by kernel_rfl) (by kernel_rfl) (by kernel_rfl) (fun _ _ _ h => h) (yields_ixp (.tmp 89) (.tmp 90) 34 (.slice (some ⟨kb, off, none⟩) l.length cap) (.int .i64 (i : Int)) _ (fun W => IX.out W) rfl rfl rfl rfl) trivial ?_
                      simp only [Act.put, List.setIfInBounds_toArray, List.set_cons_zero, List.set_cons_succ]
                      refine wpAnyH_ready (rs := [6]) (by kernel_rfl) (by simp) (br_load (i := 6) 92 (.tmp 91) 40 _ (oV x) rfl rfl rfl rfl rfl (LD6.out) trivial (fun _ => ?_) AllReadyH.nil)
                      simp only [Act.put, List.setIfInBounds_toArray, List.set_cons_zero, List.set_cons_succ]
                      refine wpAnyH_ready (rs := [7]) (by kernel_rfl) (by simp) (br_bslice (i := 7) 93 34 1 _ #[(0, oV x)] _ we rfl rfl rfl rfl rfl (BS.out) trivial (fun _ => ?_) AllReadyH.nil)
                      simp only [Act.put, List.setIfInBounds_toArray, List.set_cons_zero, List.set_cons_succ]
                      refine wpAnyH_ready (rs := [8]) (by kernel_rfl) (by simp) (br_append (i := 8) 94 (.tmp 87) (.tmp 93) 34 34 rfl rfl rfl rfl _ _ _ w5 rfl rfl HR.out trivial (fun _ => ?_) AllReadyH.nil)
                      simp only [Act.put, List.setIfInBounds_toArray, List.set_cons_zero, List.set_cons_succ]
                      refine take_at (i := 9) 95 ?_ rfl rfl (by kernel_rfl) (by kernel_rfl) (by kernel_rfl) (fun _ _ _ h => h) (.inl ⟨rfl, ?_⟩) trivial ?_
                      rotate_left 1
                      · intro w hSw; go_simp; try with_reducible rfl
                      simp only [Act.put, List.setIfInBounds_toArray, List.set_cons_zero, List.set_cons_succ]
                      refine wpAnyH_ready (rs := [10]) (by kernel_rfl) (by simp) (br_store (i := 10) 34 (.tmp 95) (.tmp 94) _ _ w6 rfl rfl rfl rfl rfl rfl HS.out trivial (fun _ => ?_) AllReadyH.nil)
                      simp only [Act.put, List.setIfInBounds_toArray, List.set_cons_zero, List.set_cons_succ]
                      refine wpAnyH_done (by kernel_rfl) ?_ _
                      go_wp2
                      go_roundw
                      case rel => exact ⟨i + 1, true, _, by go_num, by omega, rfl, FIN⟩
                      case measure => simp [intOf]; omega
                    · simp only [Act.put, List.setIfInBounds_toArray, List.set_cons_zero, List.set_cons_succ]
                      refine take_at (i := 5) 91 (pvo kb (off + i * 9)) rfl rfl (by kernel_rfl) (by kernel_rfl) (by kernel_rfl) (fun _ _ _ h => h) (yields_ixp (.tmp 89) (.tmp 90) 34 (.slice (some ⟨kb, off, none⟩) l.length cap) (.int .i64 (i : Int)) _ (fun W => IX.out W) rfl rfl rfl rfl) trivial ?_
                      simp only [Act.put, List.setIfInBounds_toArray, List.set_cons_zero, List.set_cons_succ]
                      refine wpAnyH_ready (rs := [1, 6]) (by kernel_rfl) (by simp) (br_load (i := 1) 87 (.tmp 86) 34 _ (p0) rfl rfl rfl rfl rfl (LD1.out) trivial (fun _ => ?_) (br_load (i := 6) 92 (.tmp 91) 40 _ (oV x) rfl rfl rfl rfl rfl (LD6.out) trivial (fun _ => ?_) AllReadyH.nil))
                      · simp only [Act.put, List.setIfInBounds_toArray, List.set_cons_zero, List.set_cons_succ]
                        refine wpAnyH_ready (rs := [6]) (by kernel_rfl) (by simp) (br_load (i := 6) 92 (.tmp 91) 40 _ (oV x) rfl rfl rfl rfl rfl (LD6.out) trivial (fun _ => ?_) AllReadyH.nil)
                        simp only [Act.put, List.setIfInBounds_toArray, List.set_cons_zero, List.set_cons_succ]
                        refine wpAnyH_ready (rs := [7]) (by kernel_rfl) (by simp) (br_bslice (i := 7) 93 34 1 _ #[(0, oV x)] _ we rfl rfl rfl rfl rfl (BS.out) trivial (fun _ => ?_) AllReadyH.nil)
                        simp only [Act.put, List.setIfInBounds_toArray, List.set_cons_zero, List.set_cons_succ]
                        refine wpAnyH_ready (rs := [8]) (by kernel_rfl) (by simp) (br_append (i := 8) 94 (.tmp 87) (.tmp 93) 34 34 rfl rfl rfl rfl _ _ _ w5 rfl rfl HR.out trivial (fun _ => ?_) AllReadyH.nil)
                        simp only [Act.put, List.setIfInBounds_toArray, List.set_cons_zero, List.set_cons_succ]
                        refine take_at (i := 9) 95 ?_ rfl rfl (by kernel_rfl) (by kernel_rfl) (by kernel_rfl) (fun _ _ _ h => h) (.inl ⟨rfl, ?_⟩) trivial ?_
                        rotate_left 1
                        · intro w hSw; go_simp; try with_reducible rfl
                        simp only [Act.put, List.setIfInBounds_toArray, List.set_cons_zero, List.set_cons_succ]
                        refine wpAnyH_ready (rs := [10]) (by kernel_rfl) (by simp) (br_store (i := 10) 34 (.tmp 95) (.tmp 94) _ _ w6 rfl rfl rfl rfl rfl rfl HS.out trivial (fun _ => ?_) AllReadyH.nil)
                        simp only [Act.put, List.setIfInBounds_toArray, List.set_cons_zero, List.set_cons_succ]
                        refine wpAnyH_done (by kernel_rfl) ?_ _
                        go_wp2
                        go_roundw
                        case rel => exact ⟨i + 1, true, _, by go_num, by omega, rfl, FIN⟩
                        case measure => simp [intOf]; omega
                      · simp only [Act.put, List.setIfInBounds_toArray, List.set_cons_zero, List.set_cons_succ]
                        refine wpAnyH_ready (rs := [1, 7]) (by kernel_rfl) (by simp) (br_load (i := 1) 87 (.tmp 86) 34 _ (p0) rfl rfl rfl rfl rfl (LD1.out) trivial (fun _ => ?_) (br_bslice (i := 7) 93 34 1 _ #[(0, oV x)] _ we rfl rfl rfl rfl rfl (BS.out) trivial (fun _ => ?_) AllReadyH.nil))
                        · simp only [Act.put, List.setIfInBounds_toArray, List.set_cons_zero, List.set_cons_succ]
                          refine wpAnyH_ready (rs := [7]) (by kernel_rfl) (by simp) (br_bslice (i := 7) 93 34 1 _ #[(0, oV x)] _ we rfl rfl rfl rfl rfl (BS.out) trivial (fun _ => ?_) AllReadyH.nil)
                          simp only [Act.put, List.setIfInBounds_toArray, List.set_cons_zero, List.set_cons_succ]
                          refine wpAnyH_ready (rs := [8]) (by kernel_rfl) (by simp) (br_append (i := 8) 94 (.tmp 87) (.tmp 93) 34 34 rfl rfl rfl rfl _ _ _ w5 rfl rfl HR.out trivial (fun _ => ?_) AllReadyH.nil)
                          simp only [Act.put, List.setIfInBounds_toArray, List.set_cons_zero, List.set_cons_succ]
                          refine take_at (i := 9) 95 ?_ rfl rfl (by kernel_rfl) (by kernel_rfl) (by kernel_rfl) (fun _ _ _ h => h) (.inl ⟨rfl, ?_⟩) trivial ?_
                          rotate_left 1
                          · intro w hSw; go_simp; try with_reducible rfl
                          simp only [Act.put, List.setIfInBounds_toArray, List.set_cons_zero, List.set_cons_succ]
                          refine wpAnyH_ready (rs := [10]) (by kernel_rfl) (by simp) (br_store (i := 10) 34 (.tmp 95) (.tmp 94) _ _ w6 rfl rfl rfl rfl rfl rfl HS.out trivial (fun _ => ?_) AllReadyH.nil)
                          simp only [Act.put, List.setIfInBounds_toArray, List.set_cons_zero, List.set_cons_succ]
                          refine wpAnyH_done (by kernel_rfl) ?_ _
                          go_wp2
                          go_roundw
                          case rel => exact ⟨i + 1, true, _, by go_num, by omega, rfl, FIN⟩
                          case measure => simp [intOf]; omega
                        · simp only [Act.put, List.setIfInBounds_toArray, List.set_cons_zero, List.set_cons_succ]
                          refine wpAnyH_ready (rs := [1]) (by kernel_rfl) (by simp) (br_load (i := 1) 87 (.tmp 86) 34 _ (p0) rfl rfl rfl rfl rfl (LD1e.out) trivial (fun _ => ?_) AllReadyH.nil)
                          simp only [Act.put, List.setIfInBounds_toArray, List.set_cons_zero, List.set_cons_succ]
                          refine wpAnyH_ready (rs := [8]) (by kernel_rfl) (by simp) (br_append (i := 8) 94 (.tmp 87) (.tmp 93) 34 34 rfl rfl rfl rfl _ _ _ w5 rfl rfl HR.out trivial (fun _ => ?_) AllReadyH.nil)
                          simp only [Act.put, List.setIfInBounds_toArray, List.set_cons_zero, List.set_cons_succ]
                          refine take_at (i := 9) 95 ?_ rfl rfl (by kernel_rfl) (by kernel_rfl) (by kernel_rfl) (fun _ _ _ h => h) (.inl ⟨rfl, ?_⟩) trivial ?_
                          rotate_left 1
                          · intro w hSw; go_simp; try with_reducible rfl
                          simp only [Act.put, List.setIfInBounds_toArray, List.set_cons_zero, List.set_cons_succ]
                          refine wpAnyH_ready (rs := [10]) (by kernel_rfl) (by simp) (br_store (i := 10) 34 (.tmp 95) (.tmp 94) _ _ w6 rfl rfl rfl rfl rfl rfl HS.out trivial (fun _ => ?_) AllReadyH.nil)
                          simp only [Act.put, List.setIfInBounds_toArray, List.set_cons_zero, List.set_cons_succ]
                          refine wpAnyH_done (by kernel_rfl) ?_ _
                          go_wp2
                          go_roundw
                          case rel => exact ⟨i + 1, true, _, by go_num, by omega, rfl, FIN⟩
                          case measure => simp [intOf]; omega
                  | false =>
                    have FS2 := Lib.hid (show (l.take (i + 1)).foldl (putS o) ([], false) = (cs ++ [x], dn) from FS.out)
                    have P2 := P1
                    have HC2 := Lib.hid (show cs.length ≤ 90001 by have := HCL.out; omega)
                    clear FS P1
                    go_upto_region 20 with fail
                    obtain ⟨wd, hwd⟩ : ∃ zz, wc.drew = zz := ⟨_, rfl⟩
                    have BD : Below wc.heap.size wc wd := by rw [← hwd]; exact (Below.refl _ _).drew
                    have HWD := Lib.hid hwd
                    have PD := Lib.hid (P2.out.step BD)
                    have CVd := PD.out.out.cv HB.out
                    obtain ⟨pa2, pc2, hpv2⟩ := Ve.own_shape PD.out.row
                    have LD1 := Lib.hid (show (Instr.loadAt 34 (pvo g10 64)).run Tryd.prog wd = .ok pv0 wd by rw [hpv2] at CVd ⊢; exact ldV CVd)
                    have LD3 := Lib.hid (ldV (PD.out.src.cv HB.out))
                    have LD6 := Lib.hid (XC.out _ PD.out.bel)
                    have BS := Lib.hid (bsO wd x)
                    have VE := vstep wd (.cells (oCells x) 40)
                    have NE := heap_alloc_new wd (.cells (oCells x) 40)
                    have PE := PD.out.step VE
                    have CVe := PE.out.cv HB.out
                    obtain ⟨we, hwe⟩ : ∃ zz, wd.alloc (.cells (oCells x) 40) = zz := ⟨_, rfl⟩
                    rw [hwe] at BS VE NE PE CVe
                    have LD1e := Lib.hid (show (Instr.loadAt 34 (pvo g10 64)).run Tryd.prog we = .ok pv0 we by rw [hpv2] at CVe ⊢; exact ldV CVe)
                    obtain ⟨a5, c5, w5, w6, hr5, hs5, hp5⟩ := PE.push HB.out (by have := HC2.out; omega) wd.heap.size x NE
                    have HR := Lib.hid hr5
                    have HS := Lib.hid hs5
                    have FIN := Lib.hid (show _ ∧ ∃ pv, RP w w6 g10 bs bs _ o pv _ from ⟨FS2.out, _, hp5⟩)
                    clear CVd hpv2 VE NE PE CVe hwe hr5 hs5 hp5 hwd BD
                    refine wp_region_held_drew (S := fun _ => True) (by kernel_rfl) trivial (fun _ => ?_)
                    rw [HWD.out]
                    refine take_at (i := 0) 86 ?_ rfl rfl (by kernel_rfl) (by kernel_rfl) (by kernel_rfl) (fun _ _ _ h => h) (.inl ⟨rfl, ?_⟩) trivial ?_
                    rotate_left 1
                    · intro w hSw; go_simp; try with_reducible rfl
                    simp only [Act.put, List.setIfInBounds_toArray, List.set_cons_zero, List.set_cons_succ]
                    refine take_at (i := 2) 88 ?_ rfl rfl (by kernel_rfl) (by kernel_rfl) (by kernel_rfl) (fun _ _ _ h => h) (.inl ⟨rfl, ?_⟩) trivial ?_
                    rotate_left 1
                    · intro w hSw; go_simp; try with_reducible rfl
                    simp only [Act.put, List.setIfInBounds_toArray, List.set_cons_zero, List.set_cons_succ]
                    refine take_at (i := 4) 90 ?_ rfl rfl (by kernel_rfl) (by kernel_rfl) (by kernel_rfl) (fun _ _ _ h => h) (.inl ⟨rfl, ?_⟩) trivial ?_
                    rotate_left 1
                    · intro w hSw; go_simp; try with_reducible rfl
                    simp only [Act.put, List.setIfInBounds_toArray, List.set_cons_zero, List.set_cons_succ]
                    refine wpAnyH_ready (rs := [1, 3]) (by kernel_rfl) (by simp) (br_load (i := 1) 87 (.tmp 86) 34 _ (pv0) rfl rfl rfl rfl rfl (LD1.out) trivial (fun _ => ?_) (br_load (i := 3) 89 (.tmp 88) 34 _ (.slice (some ⟨kb, off, none⟩) l.length cap) rfl rfl rfl rfl rfl (LD3.out) trivial (fun _ => ?_) AllReadyH.nil))
                    · simp only [Act.put, List.setIfInBounds_toArray, List.set_cons_zero, List.set_cons_succ]
                      refine wpAnyH_ready (rs := [3]) (by kernel_rfl) (by simp) (br_load (i := 3) 89 (.tmp 88) 34 _ (.slice (some ⟨kb, off, none⟩) l.length cap) rfl rfl rfl rfl rfl (LD3.out) trivial (fun _ => ?_) AllReadyH.nil)
                      simp only [Act.put, List.setIfInBounds_toArray, List.set_cons_zero, List.set_cons_succ]
                      refine take_at (i := 5) 91 (pvo kb (off + i * 9)) rfl rfl (by kernel_rfl) (by kernel_rfl) (by kernel_rfl) (fun _ _ _ h => h) (yields_ixp (.tmp 89) (.tmp 90) 34 (.slice (some ⟨kb, off, none⟩) l.length cap) (.int .i64 (i : Int)) _ (fun W => IX.out W) rfl rfl rfl rfl) trivial ?_
                      simp only [Act.put, List.setIfInBounds_toArray, List.set_cons_zero, List.set_cons_succ]
                      refine wpAnyH_ready (rs := [6]) (by kernel_rfl) (by simp) (br_load (i := 6) 92 (.tmp 91) 40 _ (oV x) rfl rfl rfl rfl rfl (LD6.out) trivial (fun _ => ?_) AllReadyH.nil)
                      simp only [Act.put, List.setIfInBounds_toArray, List.set_cons_zero, List.set_cons_succ]
                      refine wpAnyH_ready (rs := [7]) (by kernel_rfl) (by simp) (br_bslice (i := 7) 93 34 1 _ #[(0, oV x)] _ we rfl rfl rfl rfl rfl (BS.out) trivial (fun _ => ?_) AllReadyH.nil)
                      simp only [Act.put, List.setIfInBounds_toArray, List.set_cons_zero, List.set_cons_succ]
                      refine wpAnyH_ready (rs := [8]) (by kernel_rfl) (by simp) (br_append (i := 8) 94 (.tmp 87) (.tmp 93) 34 34 rfl rfl rfl rfl _ _ _ w5 rfl rfl HR.out trivial (fun _ => ?_) AllReadyH.nil)
                      simp only [Act.put, List.setIfInBounds_toArray, List.set_cons_zero, List.set_cons_succ]
                      refine take_at (i := 9) 95 ?_ rfl rfl (by kernel_rfl) (by kernel_rfl) (by kernel_rfl) (fun _ _ _ h => h) (.inl ⟨rfl, ?_⟩) trivial ?_
                      rotate_left 1
                      · intro w hSw; go_simp; try with_reducible rfl
                      simp only [Act.put, List.setIfInBounds_toArray, List.set_cons_zero, List.set_cons_succ]
                      refine wpAnyH_ready (rs := [10]) (by kernel_rfl) (by simp) (br_store (i := 10) 34 (.tmp 95) (.tmp 94) _ _ w6 rfl rfl rfl rfl rfl rfl HS.out trivial (fun _ => ?_) AllReadyH.nil)
                      simp only [Act.put, List.setIfInBounds_toArray, List.set_cons_zero, List.set_cons_succ]
                      refine wpAnyH_done (by kernel_rfl) ?_ _
                      go_wp2
                      go_roundw
                      case rel => exact ⟨i + 1, dn, _, by go_num, by omega, rfl, FIN⟩
                      case measure => simp [intOf]; omega
                    · simp only [Act.put, List.setIfInBounds_toArray, List.set_cons_zero, List.set_cons_succ]
                      refine take_at (i := 5) 91 (pvo kb (off + i * 9)) rfl rfl (by kernel_rfl) (by kernel_rfl) (by kernel_rfl) (fun _ _ _ h => h) (yields_ixp (.tmp 89) (.tmp 90) 34 (.slice (some ⟨kb, off, none⟩) l.length cap) (.int .i64 (i : Int)) _ (fun W => IX.out W) rfl rfl rfl rfl) trivial ?_
                      simp only [Act.put, List.setIfInBounds_toArray, List.set_cons_zero, List.set_cons_succ]
                      refine wpAnyH_ready (rs := [1, 6]) (by kernel_rfl) (by simp) (br_load (i := 1) 87 (.tmp 86) 34 _ (pv0) rfl rfl rfl rfl rfl (LD1.out) trivial (fun _ => ?_) (br_load (i := 6) 92 (.tmp 91) 40 _ (oV x) rfl rfl rfl rfl rfl (LD6.out) trivial (fun _ => ?_) AllReadyH.nil))
                      · simp only [Act.put, List.setIfInBounds_toArray, List.set_cons_zero, List.set_cons_succ]
                        refine wpAnyH_ready (rs := [6]) (by kernel_rfl) (by simp) (br_load (i := 6) 92 (.tmp 91) 40 _ (oV x) rfl rfl rfl rfl rfl (LD6.out) trivial (fun _ => ?_) AllReadyH.nil)
                        simp only [Act.put, List.setIfInBounds_toArray, List.set_cons_zero, List.set_cons_succ]
                        refine wpAnyH_ready (rs := [7]) (by kernel_rfl) (by simp) (br_bslice (i := 7) 93 34 1 _ #[(0, oV x)] _ we rfl rfl rfl rfl rfl (BS.out) trivial (fun _ => ?_) AllReadyH.nil)
                        simp only [Act.put, List.setIfInBounds_toArray, List.set_cons_zero, List.set_cons_succ]
                        refine wpAnyH_ready (rs := [8]) (by kernel_rfl) (by simp) (br_append (i := 8) 94 (.tmp 87) (.tmp 93) 34 34 rfl rfl rfl rfl _ _ _ w5 rfl rfl HR.out trivial (fun _ => ?_) AllReadyH.nil)
                        simp only [Act.put, List.setIfInBounds_toArray, List.set_cons_zero, List.set_cons_succ]
                        refine take_at (i := 9) 95 ?_ rfl rfl (by kernel_rfl) (by kernel_rfl) (by kernel_rfl) (fun _ _ _ h => h) (.inl ⟨rfl, ?_⟩) trivial ?_
                        rotate_left 1
                        · intro w hSw; go_simp; try with_reducible rfl
                        simp only [Act.put, List.setIfInBounds_toArray, List.set_cons_zero, List.set_cons_succ]
                        refine wpAnyH_ready (rs := [10]) (by kernel_rfl) (by simp) (br_store (i := 10) 34 (.tmp 95) (.tmp 94) _ _ w6 rfl rfl rfl rfl rfl rfl HS.out trivial (fun _ => ?_) AllReadyH.nil)
                        simp only [Act.put, List.setIfInBounds_toArray, List.set_cons_zero, List.set_cons_succ]
                        refine wpAnyH_done (by kernel_rfl) ?_ _
                        go_wp2
                        go_roundw
                        case rel => exact ⟨i + 1, dn, _, by go_num, by omega, rfl, FIN⟩
                        case measure => simp [intOf]; omega
                      · simp only [Act.put, List.setIfInBounds_toArray, List.set_cons_zero, List.set_cons_succ]
                        refine wpAnyH_ready (rs := [1, 7]) (by kernel_rfl) (by simp) (br_load (i := 1) 87 (.tmp 86) 34 _ (pv0) rfl rfl rfl rfl rfl (LD1.out) trivial (fun _ => ?_) (br_bslice (i := 7) 93 34 1 _ #[(0, oV x)] _ we rfl rfl rfl rfl rfl (BS.out) trivial (fun _ => ?_) AllReadyH.nil))
                        · simp only [Act.put, List.setIfInBounds_toArray, List.set_cons_zero, List.set_cons_succ]
                          refine wpAnyH_ready (rs := [7]) (by kernel_rfl) (by simp) (br_bslice (i := 7) 93 34 1 _ #[(0, oV x)] _ we rfl rfl rfl rfl rfl (BS.out) trivial (fun _ => ?_) AllReadyH.nil)
                          simp only [Act.put, List.setIfInBounds_toArray, List.set_cons_zero, List.set_cons_succ]
                          refine wpAnyH_ready (rs := [8]) (by kernel_rfl) (by simp) (br_append (i := 8) 94 (.tmp 87) (.tmp 93) 34 34 rfl rfl rfl rfl _ _ _ w5 rfl rfl HR.out trivial (fun _ => ?_) AllReadyH.nil)
                          simp only [Act.put, List.setIfInBounds_toArray, List.set_cons_zero, List.set_cons_succ]
                          refine take_at (i := 9) 95 ?_ rfl rfl (by kernel_rfl) (by kernel_rfl) (by kernel_rfl) (fun _ _ _ h => h) (.inl ⟨rfl, ?_⟩) trivial ?_
                          rotate_left 1
                          · intro w hSw; go_simp; try with_reducible rfl
                          simp only [Act.put, List.setIfInBounds_toArray, List.set_cons_zero, List.set_cons_succ]
                          refine wpAnyH_ready (rs := [10]) (by kernel_rfl) (by simp) (br_store (i := 10) 34 (.tmp 95) (.tmp 94) _ _ w6 rfl rfl rfl rfl rfl rfl HS.out trivial (fun _ => ?_) AllReadyH.nil)
                          simp only [Act.put, List.setIfInBounds_toArray, List.set_cons_zero, List.set_cons_succ]
                          refine wpAnyH_done (by kernel_rfl) ?_ _
                          go_wp2
                          go_roundw
                          case rel => exact ⟨i + 1, dn, _, by go_num, by omega, rfl, FIN⟩
                          case measure => simp [intOf]; omega
                        · simp only [Act.put, List.setIfInBounds_toArray, List.set_cons_zero, List.set_cons_succ]
                          refine wpAnyH_ready (rs := [1]) (by kernel_rfl) (by simp) (br_load (i := 1) 87 (.tmp 86) 34 _ (pv0) rfl rfl rfl rfl rfl (LD1e.out) trivial (fun _ => ?_) AllReadyH.nil)
                          simp only [Act.put, List.setIfInBounds_toArray, List.set_cons_zero, List.set_cons_succ]
                          refine wpAnyH_ready (rs := [8]) (by kernel_rfl) (by simp) (br_append (i := 8) 94 (.tmp 87) (.tmp 93) 34 34 rfl rfl rfl rfl _ _ _ w5 rfl rfl HR.out trivial (fun _ => ?_) AllReadyH.nil)
                          simp only [Act.put, List.setIfInBounds_toArray, List.set_cons_zero, List.set_cons_succ]
                          refine take_at (i := 9) 95 ?_ rfl rfl (by kernel_rfl) (by kernel_rfl) (by kernel_rfl) (fun _ _ _ h => h) (.inl ⟨rfl, ?_⟩) trivial ?_
                          rotate_left 1
                          · intro w hSw; go_simp; try with_reducible rfl
                          simp only [Act.put, List.setIfInBounds_toArray, List.set_cons_zero, List.set_cons_succ]
                          refine wpAnyH_ready (rs := [10]) (by kernel_rfl) (by simp) (br_store (i := 10) 34 (.tmp 95) (.tmp 94) _ _ w6 rfl rfl rfl rfl rfl rfl HS.out trivial (fun _ => ?_) AllReadyH.nil)
                          simp only [Act.put, List.setIfInBounds_toArray, List.set_cons_zero, List.set_cons_succ]
                          refine wpAnyH_done (by kernel_rfl) ?_ _
                          go_wp2
                          go_roundw
                          case rel => exact ⟨i + 1, dn, _, by go_num, by omega, rfl, FIN⟩
                          case measure => simp [intOf]; omega
              · have hie : l.take i = l := List.take_of_length_le (by omega)
                rw [hie] at hF
                have HP := Lib.hid hP
                have PE := Lib.hid (show putR l o = putE o (cs, dn) by unfold putR; rw [hF])
                have hnl : ¬ ((i : Int) < (l.length : Int)) := by omega
                clear hF hP hI hie
                cases dn with
                | true =>
                  have L23 := Lib.hid (HP.out.out.ldR HB.out)
                  have S23 := Lib.hid (SR.out _ HP.out.res pv0 (own_olies HP.out.row).one)
                  have RR := Lib.hid (show RBx (wr.setRow (w.heap.size + 2) (rva bs pv0)) (w.heap.size + 2) bs pv0 from HP.out.res.row)
                  have XB := Lib.hid (Ve.below_setRow HP.out.bel (g := w.heap.size + 2) (by omega) (rva bs pv0))
                  have FIN := Lib.hid (show RPOut w (wr.setRow (w.heap.size + 2) (rva bs pv0)) bs L o (.slice ao l.length cap) (.returned (.tuple #[.agg (rva bs pv0), .int .i64 0])) (putI bs L o) from by
                    refine ⟨pv0, by rw [E.out], .inr ?_, XB.out⟩
                    rw [PF.out, PE.out]
                    have hgt := HP.out.gt
                    have hrow : (wr.setRow (w.heap.size + 2) (rva bs pv0)).ownsRow (g10 + 1) 40 9 pv0 cs.length (cs9 cs) := (show Far (fun k => k = w.heap.size + 2) wr (wr.setRow (w.heap.size + 2) (rva bs pv0)) from ⟨rfl, rfl, rfl, by simp [World.setRow], fun k _ hn => setRow_other _ _ _ _ hn⟩).row HP.out.row (fun j e q2 => by have := (own_lt HP.out.row j e).1; omega)
                    exact Ve.own_less hrow (by omega))
                  obtain ⟨RB, hRB⟩ : ∃ RB, rva bs pv0 = RB := ⟨_, rfl⟩
                  rw [hRB] at L23 S23 RR FIN
                  have HRB := Lib.hid hRB
                  clear hRB
                  go_wp2_with (first | refine wpList_ld rfl (.tmp 10) 36 rfl (pvo g10 0) (.agg RB) rfl L23.out ?_ | refine Ve.wpList_store_arr rfl (.tmp 4) (.tmp 104) 36 rfl (pvo (w.heap.size + 2) 0) (.agg RB) rfl rfl _ S23.out ?_ |
                    exact bodyPost_ret (ret_r2 (g := w.heap.size + 2) rfl HB.out rfl rfl RR.out) rfl (by rw [HRB.out]; exact FIN.out))
                | false =>
                  have CV1 := HP.out.out.cv HB.out
                  obtain ⟨pa, pc, hpv⟩ := Ve.own_shape HP.out.row
                  have L1 := Lib.hid (show (Instr.loadAt 34 (pvo g10 64)).run Tryd.prog wr = .ok pv0 wr by rw [hpv] at CV1 ⊢; exact ldV CV1)
                  have L2 := Lib.hid (LO.out _ HP.out.ob)
                  have BS1 := Lib.hid (bsO wr o)
                  have VE1 := vstep wr (.cells (oCells o) 40)
                  obtain ⟨a1, c1, u1, u2, hr1, hs1, hp1⟩ := (HP.out.step VE1).push HB.out (by have := HCL.out; omega) wr.heap.size o (heap_alloc_new wr (.cells (oCells o) 40))
                  obtain ⟨we1, hwe1⟩ : ∃ z, wr.alloc (.cells (oCells o) 40) = z := ⟨_, rfl⟩
                  rw [hwe1] at BS1 hr1
                  have HR1 := Lib.hid hr1
                  have HS1 := Lib.hid hs1
                  have P2 := Lib.hid hp1
                  clear hwe1
                  rw [HOV.out] at BS1 L2
                  obtain ⟨p2, hp2⟩ : ∃ p2, Value.slice a1 (cs.length + 1) c1 = p2 := ⟨_, rfl⟩
                  rw [hp2] at P2 HR1 HS1
                  clear CV1 hpv VE1 hr1 hs1 hp1 hp2
                  have L23 := Lib.hid (P2.out.out.ldR HB.out)
                  have S23 := Lib.hid (SR.out _ P2.out.res p2 (own_olies (l := cs ++ [o]) P2.out.row).one)
                  have RR := Lib.hid (show RBx (u2.setRow (w.heap.size + 2) (rva bs p2)) (w.heap.size + 2) bs p2 from P2.out.res.row)
                  have XB := Lib.hid (Ve.below_setRow P2.out.bel (g := w.heap.size + 2) (by omega) (rva bs p2))
                  have FIN := Lib.hid (show RPOut w (u2.setRow (w.heap.size + 2) (rva bs p2)) bs L o (.slice ao l.length cap) (.returned (.tuple #[.agg (rva bs p2), .int .i64 0])) (putI bs L o) from by
                    refine ⟨p2, by rw [E.out], .inr ?_, XB.out⟩
                    rw [PF.out, PE.out]
                    have hgt := P2.out.gt
                    have hrow : (u2.setRow (w.heap.size + 2) (rva bs p2)).ownsRow (g10 + 1) 40 9 p2 (cs ++ [o]).length (cs9 (cs ++ [o])) := (show Far (fun k => k = w.heap.size + 2) u2 (u2.setRow (w.heap.size + 2) (rva bs p2)) from ⟨rfl, rfl, rfl, by simp [World.setRow], fun k _ hn => setRow_other _ _ _ _ hn⟩).row P2.out.row (fun j e q2 => by have := (own_lt P2.out.row j e).1; omega)
                    exact Ve.own_less hrow (by omega))
                  obtain ⟨RB, hRB⟩ : ∃ RB, rva bs p2 = RB := ⟨_, rfl⟩
                  rw [hRB] at L23 S23 RR FIN
                  have HRB := Lib.hid hRB
                  clear hRB
                  go_wp2_with (first | (refine wpList_ld rfl (.tmp 98) 34 rfl (pvo g10 64) pv0 rfl L1.out ?_; simp only [Act.put, List.setIfInBounds_toArray, List.set_cons_zero, List.set_cons_succ]) | (refine wpList_ld rfl (.tmp 3) 40 rfl (pvo (w.heap.size + 1) 0) (.agg OA) rfl L2.out ?_; simp only [Act.put, List.setIfInBounds_toArray, List.set_cons_zero, List.set_cons_succ]) | (refine wpList_bs rfl 34 (.tmp 100) rfl (.agg OA) rfl (.slice (some ⟨wr.heap.size, 0, none⟩) 1 1) _ BS1.out ?_; simp only [Act.put, List.setIfInBounds_toArray, List.set_cons_zero, List.set_cons_succ]) | (at_builtin; refine Lib.wpList_append_run _ rfl (.tmp 99) (.tmp 101) 34 34 rfl pv0 (.slice (some ⟨wr.heap.size, 0, none⟩) 1 1) rfl rfl _ _ HR1.out ?_; simp only [Act.put, List.setIfInBounds_toArray, List.set_cons_zero, List.set_cons_succ]) | refine Ve.wpList_store_arr rfl (.tmp 103) (.tmp 102) 34 rfl (pvo g10 64) p2 rfl rfl _ HS1.out ?_ | refine wpList_ld rfl (.tmp 10) 36 rfl (pvo g10 0) (.agg RB) rfl L23.out ?_ | refine Ve.wpList_store_arr rfl (.tmp 4) (.tmp 104) 36 rfl (pvo (w.heap.size + 2) 0) (.agg RB) rfl rfl _ S23.out ?_ |
                    exact bodyPost_ret (ret_r2 (g := w.heap.size + 2) rfl HB.out rfl rfl RR.out) rfl (by rw [HRB.out]; exact FIN.out))
end Go.Proofs.YtgnnpfainoppeaaDoor

set_option linter.unusedVariables false
set_option linter.unusedSimpArgs false
set_option maxRecDepth 100000
namespace Go.Proofs.YtgnnpfainoppeaaDoor
open Go.RowKit
open Ve (zs zs_len vw va)

theorem OLies.atK {w : World} {ao : Option Addr} {n cap : Nat} {l : List O} (h : OLies w (.slice ao n cap) l) {i : Nat} (hi : i < n) : ∃ g k o, ao = some ⟨g, k, none⟩ ∧ l[i]? = some o ∧ g < w.heap.size ∧ ∀ j u, (oc o)[j]? = some u → w.cell? ⟨g, k + i * 9 + j, none⟩ = some u := by
  obtain ⟨ao', cap', e, hn, hm, h0, hc⟩ := h
  injection e with e1 e2 e3
  subst e1 e2 e3
  cases ao with
  | none => obtain ⟨rfl, _⟩ := h0 rfl; simp at hi
  | some b =>
    obtain ⟨g, k, rfl, hg, hc⟩ := hc b rfl (ne_of_lt hi)
    have hp := List.getElem?_eq_getElem hi
    exact ⟨g, k, _, rfl, hp, hg, hc i _ hp⟩
structure RT (w wr : World) (g : Nat) (bs cb : List Int) (v : Value) (vv : List Int) (ft fr : Int) (pv : Value) (cs : List O) : Prop where
  bel : Below w.heap.size w wr
  src : RBx wr w.heap.size bs v
  vb : wr.heap[w.heap.size + 1]? = some (.cells (va vv) 26 (0, 0))
  fb : wr.heap[w.heap.size + 2]? = some (.cells #[.int .i64 ft, .int .i64 fr] 38 (0, 0))
  res : RBx wr (w.heap.size + 3) zs (.slice none 0 0)
  out : RBx wr g cb pv
  gt : w.heap.size + 3 < g
  row : wr.ownsRow (g + 1) 40 9 pv cs.length (cs9 cs)
theorem RT.step {w wr w' : World} {g : Nat} {bs cb vv : List Int} {v pv : Value} {ft fr : Int} {cs : List O} (h : RT w wr g bs cb v vv ft fr pv cs) (hb : Below wr.heap.size wr w') : RT w w' g bs cb v vv ft fr pv cs :=
  ⟨h.bel.trans (hb.mono h.bel.size), h.src.step hb, (hb.block _ (lt_of_block h.vb)).trans h.vb, (hb.block _ (lt_of_block h.fb)).trans h.fb, h.res.step hb, h.out.step hb, h.gt, own_keep h.row hb⟩
theorem RT.push {w W : World} {g : Nat} {bs cb vv : List Int} {v pv : Value} {ft fr : Int} {cs : List O} (h : RT w W g bs cb v vv ft fr pv cs) (hcb : cb.length = 64) (hl : cs.length ≤ 100000) (k : Nat) (x : O) (hk : W.heap[k]? = some (.cells (oCells x) 40 (0, 0))) :
    ∃ a c W1 W2, (Builtin.append_ #[34, 34] 34 #[pv, .slice (some ⟨k, 0, none⟩) 1 1]).run Tryd.prog W = .ok (.slice a (cs.length + 1) c) W1 ∧
      (Instr.storeAt 34 (.pointer (some ⟨g, 64, none⟩)) (.slice a (cs.length + 1) c)).run Tryd.prog W1 = .ok () W2 ∧ RT w W2 g bs cb v vv ft fr (.slice a (cs.length + 1) c) (cs ++ [x]) := by
  obtain ⟨i0, hi0, hz0, hz1, hz2⟩ := Ve.info_parts info25
  have hgl := lt_of_block h.out
  obtain ⟨v', W1, hr, ho, hgr, hsp⟩ := Wi.run_append_src_own (P := Tryd.prog) W (g + 1) 34 34 34 40 i0 (oV O0) 9 80 Tryd.u27 hi0 hz0 hz1 hz2 rfl (by decide) pv cs.length (cs9 cs) h.row (.slice (some ⟨k, 0, none⟩) 1 1) 1 (cs9 [x]) (one_olies hk).src (by unfold maxLen; omega) (by omega) (by omega)
  obtain ⟨a, c, rfl⟩ := Ve.own_shape ho
  have hf : Far (fun j => pv.ownBlock = some j) W W1 := Far.of_grown hgr (fun k e => e)
  have hlt := own_lt h.row
  have keep : ∀ j, j ≤ g → W1.heap[j]? = W.heap[j]? := fun j hj => hf.block j (by omega) (fun q => by have := (hlt j q).1; omega)
  have hb1 : RBx W1 g cb pv := (keep g (Nat.le_refl _)).trans h.out
  have hgt := h.gt
  have hs : ∀ j, j ≠ g → (W1.setCell ⟨g, 64, none⟩ (.slice a (cs.length + 1) c)).heap[j]? = W1.heap[j]? := fun j hj => heap_setCell_other W1 ⟨g, 64, none⟩ j _ (fun e => hj (by rw [e]))
  have hf2 : Far (fun j => j = g) W1 (W1.setCell ⟨g, 64, none⟩ (.slice a (cs.length + 1) c)) := ⟨rfl, rfl, rfl, by simp [World.setCell], fun j _ hn => hs j hn⟩
  refine ⟨a, c, W1, _, hr, run_storeV W1 g 64 a _ c pv (hb1.cv hcb) (hb1.free _), ?_, ?_, ?_, ?_, ?_, hb1.setv hcb, hgt, ?_⟩
  · exact h.bel.trans ((hf.below h.bel.size (fun j q => by have := (hlt j q).1; have := h.bel.size; omega)).trans (hf2.below (by have := h.bel.size; have := hf.size; omega) (fun j q => by have := h.bel.size; subst q; omega)))
  · exact (hs _ (by omega)).trans ((keep _ (by omega)).trans h.src)
  · exact (hs _ (by omega)).trans ((keep _ (by omega)).trans h.vb)
  · exact (hs _ (by omega)).trans ((keep _ (by omega)).trans h.fb)
  · exact (hs _ (by omega)).trans ((keep _ (by omega)).trans h.res)
  · rw [List.length_append, cs9_append]
    exact hf2.row ho (fun j e q => by have := (own_lt ho j e).1; omega)
theorem RT.seti {w W : World} {g : Nat} {bs cb vv : List Int} {v pv : Value} {ft fr : Int} {cs : List O} (h : RT w W g bs cb v vv ft fr pv cs) (i : Nat) (hi : i < cb.length) (x : Int) : RT w (W.setCell ⟨g, i, none⟩ (.int .i64 x)) g bs (cb.set i x) v vv ft fr pv cs := by
  have hgt := h.gt
  have hs : ∀ j, j ≠ g → (W.setCell ⟨g, i, none⟩ (.int .i64 x)).heap[j]? = W.heap[j]? := fun j hj => heap_setCell_other W ⟨g, i, none⟩ j _ (fun e => hj (by rw [e]))
  have hf2 : Far (fun j => j = g) W (W.setCell ⟨g, i, none⟩ (.int .i64 x)) := ⟨rfl, rfl, rfl, by simp [World.setCell], fun j _ hn => hs j hn⟩
  exact ⟨h.bel.trans (hf2.below h.bel.size (fun j q => by subst q; omega)), (hs _ (by omega)).trans h.src, (hs _ (by omega)).trans h.vb, (hs _ (by omega)).trans h.fb, (hs _ (by omega)).trans h.res, h.out.seti i hi x, hgt, hf2.row h.row (fun j e q => by have := (own_lt h.row j e).1; omega)⟩
theorem trS_small {s : TS} {v : List Int} {ft fr : Int} (h : Small s.bs 0) (o : O) (hq : 0 ≤ o.q ∧ o.q ≤ 4294967296) (hr : 0 ≤ o.r ∧ o.r < 64) : Small (trS v ft fr s o).bs 0 := by
  unfold trS
  split
  · refine ⟨by rw [List.length_set]; exact h.1, fun i x hx => ?_⟩
    have hx : (s.bs.set o.r.toNat o.q)[i]? = some x := hx
    rw [List.getElem?_set] at hx
    by_cases e : o.r.toNat = i
    · rw [if_pos e] at hx
      by_cases hl : i < s.bs.length
      · rw [e, if_pos hl] at hx
        injection hx with hx
        omega
      · rw [e, if_neg hl] at hx; cases hx
    · rw [if_neg e] at hx; exact h.2 i x hx
  · exact h
theorem trF_small {v : List Int} {ft fr : Int} : ∀ (l : List O) (s : TS), Small s.bs 0 → (∀ o ∈ l, (0 ≤ o.q ∧ o.q ≤ 4294967296) ∧ (0 ≤ o.r ∧ o.r < 64)) → Small (l.foldl (trS v ft fr) s).bs 0
  | [], s, h, _ => h
  | o :: l, s, h, hl => by
    rw [List.foldl_cons]
    have := hl o (List.mem_cons_self ..)
    exact trF_small l _ (trS_small h o this.1 this.2) (fun o ho => hl o (List.mem_cons_of_mem _ ho))
theorem trF_len {v : List Int} {ft fr : Int} : ∀ (l : List O) (s : TS), (l.foldl (trS v ft fr) s).l.length ≤ s.l.length + l.length ∧ s.n ≤ (l.foldl (trS v ft fr) s).n ∧ (l.foldl (trS v ft fr) s).n ≤ s.n + l.length
  | [], s => by simp
  | o :: l, s => by
    have h := trF_len (v := v) (ft := ft) (fr := fr) l (trS v ft fr s o)
    have h2 : (trS v ft fr s o).l.length ≤ s.l.length + 1 ∧ s.n ≤ (trS v ft fr s o).n ∧ (trS v ft fr s o).n ≤ s.n + 1 := by unfold trS; split <;> simp <;> omega
    rw [List.foldl_cons, List.length_cons]
    omega
set_option maxHeartbeats 12800000 in
theorem rtrim_any (w : World) (bs : List Int) (hs : Small bs 0) (v : Value) (l : List O) (hv : OLies w v l) (hl : l.length ≤ 90000) (ho : ∀ o ∈ l, (0 ≤ o.q ∧ o.q ≤ 4294967296) ∧ (0 ≤ o.r ∧ o.r < 64)) (vv : List Int) (hvv : vv.length = 64) (ft fr : Int) :
    Calls Tryd.prog 14 #[.agg (rva bs v), .agg (va vv), .agg #[.int .i64 ft, .int .i64 fr]] w fun e w' => ∃ v', e = .returned (.tuple #[.agg (rva (l.foldl (trS vv ft fr) ⟨bs, [], 0⟩).bs v'), .int .i64 (l.foldl (trS vv ft fr) ⟨bs, [], 0⟩).n]) ∧ w'.ownsRow w.heap.size 40 9 v' (l.foldl (trS vv ft fr) ⟨bs, [], 0⟩).l.length (cs9 (l.foldl (trS vv ft fr) ⟨bs, [], 0⟩).l) ∧ Below w.heap.size w w' := by
  have hb := hs.1
  have HO := Lib.hid ho
  have HS := Lib.hid hs
  have HB := Lib.hid hb
  have HV := Lib.hid hvv
  have V := Lib.hid hv
  have HL := Lib.hid hl
  have X1 := vstep w (.cells (rva bs v) 36)
  have R1 : RBx (w.alloc (.cells (rva bs v) 36)) w.heap.size bs v := heap_alloc_new w _
  obtain ⟨u1, hu1⟩ : ∃ z, w.alloc (.cells (rva bs v) 36) = z := ⟨_, rfl⟩
  have z1 : u1.heap.size = w.heap.size + 1 := by rw [← hu1]; simp
  rw [hu1] at X1 R1
  have X2 := vstep u1 (.cells (va vv) 26)
  have N2 := heap_alloc_new u1 (.cells (va vv) 26)
  obtain ⟨u2, hu2⟩ : ∃ z, u1.alloc (.cells (va vv) 26) = z := ⟨_, rfl⟩
  have z2 : u2.heap.size = w.heap.size + 2 := by rw [← hu2, World.size_alloc, z1]
  rw [hu2] at X2 N2
  rw [z1] at N2
  have X3 := vstep u2 (.cells #[.int .i64 ft, .int .i64 fr] 38)
  have N3 := heap_alloc_new u2 (.cells #[.int .i64 ft, .int .i64 fr] 38)
  obtain ⟨u3, hu3⟩ : ∃ z, u2.alloc (.cells #[.int .i64 ft, .int .i64 fr] 38) = z := ⟨_, rfl⟩
  have z3 : u3.heap.size = w.heap.size + 3 := by rw [← hu3, World.size_alloc, z2]
  rw [hu3] at X3 N3
  rw [z2] at N3
  have A4 := alloc36 u3
  have X4 := vstep u3 (.cells (rva zs (.slice none 0 0)) 36)
  have N4 : RBx (u3.alloc (.cells (rva zs (.slice none 0 0)) 36)) u3.heap.size zs (.slice none 0 0) := heap_alloc_new u3 _
  obtain ⟨u4, hu4⟩ : ∃ z, u3.alloc (.cells (rva zs (.slice none 0 0)) 36) = z := ⟨_, rfl⟩
  have z4 : u4.heap.size = w.heap.size + 4 := by rw [← hu4, World.size_alloc, z3]
  rw [hu4] at X4 N4 A4
  rw [z3] at N4 A4
  have R4 := ((R1.step X2).step X3).step X4
  have V4 := (X4.block _ (by omega)).trans ((X3.block _ (by omega)).trans N2)
  have F4 := (X4.block _ (by omega)).trans N3
  have L4 := Lib.hid (R4.ldB hb)
  have A5 := alloc36 u4
  have X5 := vstep u4 (.cells (rva zs (.slice none 0 0)) 36)
  have N5 : RBx (u4.alloc (.cells (rva zs (.slice none 0 0)) 36)) u4.heap.size zs (.slice none 0 0) := heap_alloc_new u4 _
  have S5 := Lib.hid (store36 (u4.alloc (.cells (rva zs (.slice none 0 0)) 36)) u4.heap.size zs bs (.slice none 0 0) (.slice none 0 0) zs_len hb rfl N5)
  have B5 := Ve.below_setRow X5 (g := u4.heap.size) (Nat.le_refl _) (rva bs (.slice none 0 0))
  have M5 := N5.row (cs := bs) (v := .slice none 0 0)
  obtain ⟨u5, hu5⟩ : ∃ z, (u4.alloc (.cells (rva zs (.slice none 0 0)) 36)).setRow u4.heap.size (rva bs (.slice none 0 0)) = z := ⟨_, rfl⟩
  rw [hu5] at S5 B5 M5
  have XX := ((((X1.trans (X2.mono (by omega))).trans (X3.mono (by omega))).trans (X4.mono (by omega))).trans (B5.mono (by omega)))
  have RT0 := Lib.hid (show RT w u5 u4.heap.size bs bs v vv ft fr (.slice none 0 0) [] from ⟨XX, R4.step B5, (B5.block _ (by omega)).trans V4, (B5.block _ (by omega)).trans F4, N4.step B5, M5, by omega, World.ownsRow_nil _ _ _ _⟩)
  have A5H := Lib.hid A5
  have B36 := Lib.hid (fun W => build36 W bs hb)
  have hW3 : (((w.alloc (.cells (rva bs v) 36)).alloc (.cells (va vv) 26)).alloc (.cells #[.int .i64 ft, .int .i64 fr] 38)) = u3 := by rw [hu1, hu2, hu3]
  have SR := Lib.hid (fun W cb (hcb : cb.length = 64) (h : RBx W (w.heap.size + 3) zs (.slice none 0 0)) (u : Value) (hu : u.oneCell' = true) => store36 W (w.heap.size + 3) zs cb (.slice none 0 0) u zs_len hcb hu h)
  have hll := hv.len
  obtain ⟨ao, cap, rfl⟩ := hv.shape
  obtain ⟨A, hA⟩ : ∃ A, rva bs (.slice ao l.length cap) = A := ⟨_, rfl⟩
  obtain ⟨VV, hVV⟩ : ∃ VV, va vv = VV := ⟨_, rfl⟩
  obtain ⟨VB, hVB⟩ : ∃ VB, va bs = VB := ⟨_, rfl⟩
  obtain ⟨RN, hRN⟩ : ∃ RN, rva bs (.slice none 0 0) = RN := ⟨_, rfl⟩
  obtain ⟨g0, hg0⟩ : ∃ g, u4.heap.size = g := ⟨_, rfl⟩
  rw [hA, hVV] at hW3
  rw [hVB] at L4 B36
  rw [hRN] at B36 S5
  rw [hg0] at RT0 A5H S5
  rw [hA, hVV]
  rw [← hW3] at A4
  have A4L := Lib.hid A4
  clear hA hVV hVB hRN hg0 hW3 X1 R1 hu1 z1 X2 N2 hu2 z2 X3 N3 hu3 z3 A4 X4 N4 hu4 z4 R4 V4 F4 A5 X5 N5 B5 M5 hu5 XX hv hs hb hvv hl ho
  go_enter Tryd.func14, Tryd.ntmps14
  go_wp2_with (first | refine Ve.wpList_alloc_arr rfl 36 rfl _ _ A4L.out ?_ | refine Ve.wpList_load_arr rfl (.tmp 13) 26 rfl (pvo w.heap.size 0) (.agg VB) rfl L4.out ?_ | refine wpList_build_1 rfl 36 0 (.tmp 14) rfl (.agg VB) rfl (.agg RN) (B36.out _) ?_ | refine Ve.wpList_alloc_arr rfl 36 rfl _ _ A5H.out ?_ | refine Ve.wpList_store_arr rfl (.tmp 8) (.tmp 15) 36 rfl (pvo g0 0) (.agg RN) rfl rfl _ S5.out ?_)
  clear A4L L4 B36 A5H S5
  go_loopw [9, 10] (fun nv iv wr => ∃ (i : Nat) (s : TS), iv = .int .i64 i ∧ i ≤ l.length ∧ nv = .int .i64 s.n ∧ Hid ((l.take i).foldl (trS vv ft fr) ⟨bs, [], 0⟩ = s ∧ ∃ pv, RT w wr g0 bs s.bs (.slice ao l.length cap) vv ft fr pv s.l)) (fun _ iv _ => l.length - (intOf iv).toNat)
  case atStart => exact ⟨0, ⟨bs, [], 0⟩, rfl, Nat.zero_le _, rfl, Lib.hid ⟨rfl, _, RT0.out⟩⟩
  case round =>
    obtain ⟨i, s, rfl, hi, rfl, hI⟩ := hrel
    obtain ⟨hF, pv0, hR⟩ := hI.out
    have CV := hR.src.cv HB.out
    by_cases hlt : i < l.length
    · obtain ⟨kb, off, x, rfl, hx, hk, hc⟩ := (V.out.step hR.bel).atK hlt
      have SM := trF_small (v := vv) (ft := ft) (fr := fr) (l.take i) ⟨bs, [], 0⟩ HS.out (fun o ho => HO.out o (List.mem_of_mem_take ho))
      rw [hF] at SM
      have LN := trF_len (v := vv) (ft := ft) (fr := fr) (l.take i) ⟨bs, [], 0⟩
      rw [hF] at LN
      have LN2 := Lib.hid (show s.l.length ≤ 90000 ∧ 0 ≤ s.n ∧ s.n ≤ 90000 by
        have h2 : (l.take i).length ≤ l.length := by rw [List.length_take]; omega
        have := HL.out
        simp only [List.length_nil, Nat.zero_add, Int.zero_add] at LN
        omega)
      have hxo := HO.out x (List.mem_of_getElem? hx)
      obtain ⟨q, hq⟩ : ∃ q : Nat, x.r = (q : Int) := ⟨x.r.toNat, by omega⟩
      have hq64 : q < 64 := by omega
      obtain ⟨y, hy⟩ : ∃ y, s.bs[q]? = some y := ⟨s.bs[q]'(by rw [SM.1]; exact hq64), List.getElem?_eq_getElem _⟩
      obtain ⟨t, ht⟩ : ∃ t, vv[q]? = some t := Ve.va_len vv HV.out q hq64
      have yb := SM.2 q y hy
      have SMH := Lib.hid SM
      have HY := Lib.hid hy
      have LX := Lib.hid (ldO hc)
      have AX := Lib.hid (alloc40 wr)
      have NX := heap_alloc_new wr (.cells (oCells O0) 40)
      have SX := store_o (wr.alloc (.cells (oCells O0) 40)) wr.heap.size O0 x NX
      have RX := setRow_heap _ _ _ (oCells x) _ _ NX
      have BX := Ve.below_setRow (vstep wr (.cells (oCells O0) 40)) (g := wr.heap.size) (Nat.le_refl _) (oCells x)
      obtain ⟨W1, hW1⟩ : ∃ z, (wr.alloc (.cells (oCells O0) 40)).setRow wr.heap.size (oCells x) = z := ⟨_, rfl⟩
      rw [hW1] at SX RX BX
      obtain ⟨k1, hk1⟩ : ∃ k, wr.heap.size = k := ⟨_, rfl⟩
      rw [hk1] at SX RX AX
      have HOX := Lib.hid (show oV x = .agg (oCells x) from rfl)
      obtain ⟨OX, hOX⟩ : ∃ OX, oCells x = OX := ⟨_, rfl⟩
      rw [HOX.out, hOX] at SX LX
      have SXH := Lib.hid SX
      have HOX2 := Lib.hid hOX
      have RXH := Lib.hid RX
      have R1 := Lib.hid (hR.step BX)
      obtain ⟨cnd, hcnd⟩ : ∃ cnd, (decide (x.q = y + 1) && goB t ft fr x) = cnd := ⟨_, rfl⟩
      have FS := Lib.hid (show (l.take (i + 1)).foldl (trS vv ft fr) ⟨bs, [], 0⟩ = (if cnd then ⟨s.bs.set q x.q, s.l, s.n + 1⟩ else ⟨s.bs, s.l ++ [x], s.n⟩) by
        rw [Ve.take_snoc' l i x hx, List.foldl_append, hF]
        show trS vv ft fr s x = _
        unfold trS
        rw [hq, Int.toNat_natCast, getD_some hy, getD_some ht, hcnd])
      have c0 := later_cell RX (j := 0) (v := .int .i64 x.t) rfl
      have c1 := later_cell RX (j := 1) (v := .int .i64 (q : Int)) (by rw [← hq]; rfl)
      have c2 := later_cell RX (j := 2) (v := .int .i64 x.q) rfl
      have c3 := later_cell R1.out.out (j := q) (v := .int .i64 y) (by
        rw [rva, List.getElem?_toArray, rvl, List.getElem?_append_left (by rw [List.length_map, SM.1]; exact hq64), List.getElem?_map, hy]; rfl)
      have c4 := later_cell R1.out.vb (Ve.va_get vv q t ht)
      have c5 := later_cell R1.out.fb (j := 0) (v := .int .i64 ft) rfl
      have c6 := later_cell R1.out.fb (j := 1) (v := .int .i64 fr) rfl
      have d1 : W1.cell? ⟨k1, 1, none⟩ = some (.int .i64 (q : Int)) := by rw [cell_of_row _ _ _ _ _ _ RX, ← hq]; rfl
      have DL := Lib.hid (fun xx : Later W1 => (show Calls Tryd.prog 36 #[.agg #[.int .i64 ft, .int .i64 fr], .agg #[.int .i64 x.t, .int .i64 (q : Int)]] xx.w fun e w' => e = .returned (.bool (St.lessB ft fr x.t x.r)) ∧ Below xx.w.heap.size xx.w w' from by rw [← hq]; exact St.less_any xx.w ft fr x.t x.r))
      obtain ⟨lb, hlb⟩ : ∃ lb, St.lessB ft fr x.t x.r = lb := ⟨_, rfl⟩
      rw [hlb] at DL
      have e1 : IntKind.i64.wrap (y + 1) = y + 1 := by rw [IntKind.wrap_i64]; omega
      have e2 : wrap64 (y + 1) = y + 1 := by unfold wrap64; omega
      have hi0 : (0 : Int) ≤ (i : Int) := by omega
      have hi1 : (i : Int) < (l.length : Int) := by omega
      have q0 : (0 : Int) ≤ (q : Int) := by omega
      have q1 : (q : Int) < 64 := by omega
      have hcase : ((x.q == y + 1) = false ∧ cnd = false) ∨ ((x.q == y + 1) = true ∧ ¬ x.q ≤ t ∧ cnd = false) ∨ ((x.q == y + 1) = true ∧ x.q ≤ t ∧ cnd = !lb) := by
        by_cases h1 : x.q = y + 1
        · by_cases h2 : x.q ≤ t
          · refine .inr (.inr ⟨beqb_ _ _ h1, h2, ?_⟩)
            rw [← hcnd, decide_eq_true h1]
            unfold goB
            rw [decide_eq_true h2, hlb]
            rfl
          · refine .inr (.inl ⟨beqb_ _ _ h1, h2, ?_⟩)
            rw [← hcnd]
            unfold goB
            rw [decide_eq_false h2]
            simp
        · exact .inl ⟨bneb_ _ _ h1, by rw [← hcnd, decide_eq_false h1]; rfl⟩
      have HQ := Lib.hid hq
      clear SM LN hxo hy ht hx hk hc NX SX RX BX hW1 hk1 hOX hR hF hI hcnd hlb yb hq
      go_upto_region 8 with (first | refine wpList_ld rfl (.tmp 26) 40 rfl (pvo kb (off + i * 9)) (.agg OX) rfl LX.out ?_ | refine Ve.wpList_alloc_arr rfl 40 rfl _ _ AX.out ?_ | refine Ve.wpList_store_arr rfl (.tmp 11) (.tmp 27) 40 rfl (pvo k1 0) (.agg OX) rfl rfl _ SXH.out ?_)
      clear LX AX SXH d1 CV
      go_cut [53] from 31 to 53 (fun xv wx => xv = .bool cnd ∧ Hid (Below W1.heap.size W1 wx))
      case first =>
        rcases hcase with ⟨h1, h3⟩ | ⟨h1, h2, h3⟩ | ⟨h1, h2, h3⟩
        all_goals
          refine wp_region_later (by kernel_rfl) (by kernel_rfl) ?_
          repeat (go_big_quiet_step (first
            | (go_at_call 36; with_reducible exact later_call (DL.out _))))
          refine wpQuiet_nil ?_
          rintro _ ⟨xl, rfl⟩
          go_wp2_with fail
          go_meet
          exact ⟨by (try rw [h3]) <;> (first | rfl | simp [h2]), Lib.hid xl.below⟩
      case rest =>
        obtain ⟨rfl, hW⟩ := hcut
        have R2 := Lib.hid (R1.out.step hW.out)
        have RX2 := Lib.hid ((hW.out.block _ (lt_of_block RXH.out)).trans RXH.out)
        clear c0 c1 c2 c3 c4 c5 c6 DL hcase R1 RXH hW
        cases cnd with
        | true =>
          have FS2 := Lib.hid (show (l.take (i + 1)).foldl (trS vv ft fr) ⟨bs, [], 0⟩ = ⟨s.bs.set q x.q, s.l, s.n + 1⟩ from FS.out)
          have d2 : wc.cell? ⟨k1, 2, none⟩ = some (.int .i64 x.q) := by rw [cell_of_row _ _ _ _ _ _ RX2.out]; rfl
          have d3 := R2.out.out.ci HY.out
          have f3 := R2.out.out.free q
          have R3 := Lib.hid (R2.out.seti q (by rw [SMH.out.1]; exact hq64) x.q)
          have hnw : wrap64 (s.n + 1) = s.n + 1 := by have := LN2.out; unfold wrap64; omega
          clear FS
          go_wp2
          go_roundw
          case rel => exact ⟨i + 1, ⟨s.bs.set q x.q, s.l, s.n + 1⟩, by go_num, by omega, by first | rfl | rw [hnw], Lib.hid ⟨FS2.out, _, R3.out⟩⟩
          case measure => simp [intOf]; omega
        | false =>
          have FS2 := Lib.hid (show (l.take (i + 1)).foldl (trS vv ft fr) ⟨bs, [], 0⟩ = ⟨s.bs, s.l ++ [x], s.n⟩ from FS.out)
          have CV1 := R2.out.out.cv SMH.out.1
          obtain ⟨pa, pc, hpv⟩ := Ve.own_shape R2.out.row
          have L1 := Lib.hid (show (Instr.loadAt 34 (pvo g0 64)).run Tryd.prog wc = .ok pv0 wc by rw [hpv] at CV1 ⊢; exact ldV CV1)
          have L2 := ldO (box_o (W := wc) (g := k1) (x := x) RX2.out)
          have BS1 := bsO wc x
          have VE1 := vstep wc (.cells (oCells x) 40)
          obtain ⟨a1, c1, u1, u2, hr1, hs1, hp1⟩ := (R2.out.step VE1).push SMH.out.1 (by have := LN2.out; omega) wc.heap.size x (heap_alloc_new wc (.cells (oCells x) 40))
          have HR1 := Lib.hid hr1
          have HS1 := Lib.hid hs1
          have P2 := Lib.hid hp1
          rw [HOX.out, HOX2.out] at BS1 L2
          rw [HOX2.out] at HR1
          have BSH := Lib.hid BS1
          have L2H := Lib.hid L2
          clear CV1 hpv VE1 hr1 hs1 hp1 FS BS1 L2
          go_wp2_with (first | refine wpList_ld rfl (.tmp 61) 34 rfl (pvo g0 64) pv0 rfl L1.out ?_ | refine wpList_ld rfl (.tmp 11) 40 rfl (pvo k1 0) (.agg OX) rfl L2H.out ?_ | refine wpList_bs rfl 34 (.tmp 63) rfl (.agg OX) rfl (.slice (some ⟨wc.heap.size, 0, none⟩) 1 1) _ BSH.out ?_ | (at_builtin; refine Lib.wpList_append_run _ rfl (.tmp 62) (.tmp 64) 34 34 rfl pv0 (.slice (some ⟨wc.heap.size, 0, none⟩) 1 1) rfl rfl _ _ HR1.out ?_) | refine Ve.wpList_store_arr rfl (.tmp 66) (.tmp 65) 34 rfl (pvo g0 64) (.slice a1 (s.l.length + 1) c1) rfl rfl _ HS1.out ?_)
          go_roundw
          case rel => exact ⟨i + 1, ⟨s.bs, s.l ++ [x], s.n⟩, by go_num, by omega, rfl, Lib.hid ⟨FS2.out, _, P2.out⟩⟩
          case measure => simp [intOf]; omega
    · have hie : l.take i = l := List.take_of_length_le (by omega)
      rw [hie] at hF
      have SM := trF_small (v := vv) (ft := ft) (fr := fr) l ⟨bs, [], 0⟩ HS.out (fun o ho => HO.out o ho)
      rw [hF] at SM
      have HF := Lib.hid hF
      have SMH := Lib.hid SM
      have R2 := Lib.hid hR
      have hnl : ¬ ((i : Int) < (l.length : Int)) := by omega
      clear hF SM hR hI hie
      have L23 := Lib.hid (R2.out.out.ldR SMH.out.1)
      have S23 := Lib.hid (SR.out _ s.bs SMH.out.1 R2.out.res pv0 (own_olies R2.out.row).one)
      have RR := Lib.hid (show RBx (wr.setRow (w.heap.size + 3) (rva s.bs pv0)) (w.heap.size + 3) s.bs pv0 from R2.out.res.row)
      have XB := Lib.hid (Ve.below_setRow R2.out.bel (g := w.heap.size + 3) (by omega) (rva s.bs pv0))
      have FIN := Lib.hid (show (wr.setRow (w.heap.size + 3) (rva s.bs pv0)).ownsRow w.heap.size 40 9 pv0 s.l.length (cs9 s.l) from by
        have hgt := R2.out.gt
        have hrow : (wr.setRow (w.heap.size + 3) (rva s.bs pv0)).ownsRow (g0 + 1) 40 9 pv0 s.l.length (cs9 s.l) := (show Far (fun k => k = w.heap.size + 3) wr (wr.setRow (w.heap.size + 3) (rva s.bs pv0)) from ⟨rfl, rfl, rfl, by simp [World.setRow], fun k _ hn => setRow_other _ _ _ _ hn⟩).row R2.out.row (fun j e q2 => by have := (own_lt R2.out.row j e).1; omega)
        exact Ve.own_less hrow (by omega))
      have END := Lib.hid (show ∃ v', Ending.returned (.tuple #[.agg (rva s.bs pv0), .int .i64 s.n]) = .returned (.tuple #[.agg (rva (l.foldl (trS vv ft fr) ⟨bs, [], 0⟩).bs v'), .int .i64 (l.foldl (trS vv ft fr) ⟨bs, [], 0⟩).n]) ∧ (wr.setRow (w.heap.size + 3) (rva s.bs pv0)).ownsRow w.heap.size 40 9 v' (l.foldl (trS vv ft fr) ⟨bs, [], 0⟩).l.length (cs9 (l.foldl (trS vv ft fr) ⟨bs, [], 0⟩).l) ∧ Below w.heap.size w (wr.setRow (w.heap.size + 3) (rva s.bs pv0)) from by
        rw [HF.out]
        exact ⟨pv0, rfl, FIN.out, XB.out⟩)
      obtain ⟨RB, hRB⟩ : ∃ RB, rva s.bs pv0 = RB := ⟨_, rfl⟩
      rw [hRB] at L23 S23 RR
      have HRB := Lib.hid hRB
      rw [hRB] at END
      clear hRB FIN XB
      go_wp2_with (first | refine wpList_ld rfl (.tmp 8) 36 rfl (pvo g0 0) (.agg RB) rfl L23.out ?_ | refine Ve.wpList_store_arr rfl (.tmp 6) (.tmp 67) 36 rfl (pvo (w.heap.size + 3) 0) (.agg RB) rfl rfl _ S23.out ?_ |
        exact bodyPost_ret (ret_r2 (g := w.heap.size + 3) rfl SMH.out.1 rfl rfl RR.out) rfl (by rw [HRB.out]; exact END.out))
end Go.Proofs.YtgnnpfainoppeaaDoor

set_option linter.unusedVariables false
set_option linter.unusedSimpArgs false
set_option maxRecDepth 100000
namespace Go.Proofs.YtgnnpfainoppeaaDoor
open Go.RowKit
open Ve (zs zs_len vw va sumW)

theorem snocRec2 {α : Type} {P : List α → Prop} (h0 : P []) (h1 : ∀ l x, P l → P (l ++ [x])) : ∀ l, P l := by
  intro l
  have : ∀ (n : Nat) (l : List α), l.length = n → P l := by
    intro n
    induction n with
    | zero => intro l hl; rw [List.eq_nil_of_length_eq_zero hl]; exact h0
    | succ n ih =>
      intro l hl
      have hne : l ≠ [] := by rintro rfl; cases hl
      rw [← List.dropLast_concat_getLast hne]
      exact h1 _ _ (ih _ (by rw [List.length_dropLast]; omega))
  exact this _ l rfl
theorem sumW_sum : ∀ (l : List Int), (∀ x ∈ l, 0 ≤ x ∧ x ≤ 8589934592) → l.length ≤ 1000 → sumW l = l.sum ∧ 0 ≤ l.sum ∧ l.sum ≤ 8589934592 * (l.length : Int) := by
  refine snocRec2 (fun _ _ => ⟨rfl, by simp, by simp⟩) (fun l x ih h hl => ?_)
  rw [List.length_append, List.length_singleton] at hl
  obtain ⟨h1, h2, h3⟩ := ih (fun y hy => h y (List.mem_append_left _ hy)) (by omega)
  have hx := h x (List.mem_append_right _ (List.mem_singleton_self x))
  rw [Ve.sumW_snoc, h1, List.sum_append, List.length_append, List.length_singleton]
  simp only [List.sum_cons, List.sum_nil, Int.add_zero]
  unfold wrap64
  omega
theorem sum_map (bs : List Int) (L : Nat → List O) : ∀ n, ((List.range n).map (fun i => bs.getD i 0 + ((L i).length : Int))).sum = ((List.range n).map (fun i => bs.getD i 0)).sum + (((List.range n).flatMap L).length : Int)
  | 0 => rfl
  | n + 1 => by
    rw [List.range_succ, List.map_append, List.sum_append, sum_map bs L n, List.map_append, List.sum_append, List.flatMap_append, List.length_append]
    simp only [List.map_cons, List.map_nil, List.sum_cons, List.sum_nil, List.flatMap_cons, List.flatMap_nil, List.append_nil]
    omega
theorem getD_map (bs : List Int) (h : bs.length = 64) : (List.range 64).map (fun i => bs.getD i 0) = bs := by
  apply List.ext_getElem?
  intro j
  by_cases hj : j < 64
  · rw [List.getElem?_map, List.getElem?_range hj, List.getElem?_eq_getElem (show j < bs.length by omega)]
    show some (bs.getD j 0) = _
    rw [List.getD_eq_getElem?_getD, List.getElem?_eq_getElem (show j < bs.length by omega)]
    rfl
  · rw [List.getElem?_eq_none (by simp; omega), List.getElem?_eq_none (by omega)]
theorem len_is {bs : List Int} {L : Nat → List O} {m : Nat} (g : Gd bs L m) (hm : m ≤ 1000) : wrap64 (sumW (kn bs L) - sumW bs) = ((flat L).length : Int) := by
  have hb : ∀ x ∈ bs, 0 ≤ x ∧ x ≤ 8589934592 := fun x hx => by
    obtain ⟨i, hi⟩ := List.mem_iff_getElem?.1 hx
    have := g.bb i x hi; omega
  have hk : ∀ x ∈ kn bs L, 0 ≤ x ∧ x ≤ 8589934592 := fun x hx => by
    obtain ⟨i, hi⟩ := List.mem_iff_getElem?.1 hx
    have hi64 : i < 64 := by have := (List.getElem?_eq_some_iff.1 hi).1; rwa [kn_len] at this
    obtain ⟨y, hy⟩ : ∃ y, bs[i]? = some y := ⟨bs[i]'(by have := g.len; omega), List.getElem?_eq_getElem _⟩
    rw [kn_get bs L i hi64 y hy] at hi
    injection hi with hi
    have := g.bb i y hy
    have := g.cnt i hi64
    omega
  obtain ⟨h1, h2, h3⟩ := sumW_sum bs hb (by rw [g.len]; omega)
  obtain ⟨k1, k2, k3⟩ := sumW_sum (kn bs L) hk (by rw [kn_len]; omega)
  have hs : (kn bs L).sum = bs.sum + ((flat L).length : Int) := by
    have := sum_map bs L 64
    rw [getD_map bs g.len] at this
    exact this
  have hl := flat_le g
  rw [h1, k1, hs]
  unfold wrap64
  omega
section
variable {ops : Array Oper} {S : World → Prop} {op : Oper} {a : Act}
theorem yields_eqV (x y : Operand) (l : List Int) (hl : l.length = 64) (hw : Region.wanted op (yielded ops a.tmps) = true) (ho : op.op = .binOp .eql 27 x y 27) (hx : a.eval x = .agg (Ve.va l)) (hy : a.eval y = .agg (Ve.va l)) : YieldsIf Tryd.prog ops S op (.bool true) a :=
  .inl ⟨hw, fun w hw' => by
    unfold execOp
    simp only [ho, hx, hy, eqg27, eql_va w l l hl hl, Sem.run_bind, Sem.run_pure, Result.andThen_ok]
    simp⟩
end
set_option maxHeartbeats 6400000 in
theorem same_law (w : World) (B b : Nat) (s : HS) (m : Nat) (h : HK w B b s) (g : Gd s.bs s.L m) (hm : m ≤ 500) (v : Value) (hv : OLies w v (flat s.L)) :
    Calls Tryd.prog 16 #[pv b, .agg (rva s.bs v)] w fun e w' => e = .returned (.bool true) ∧ Below w.heap.size w w' := by
  have X := vstep w (.cells (rva s.bs v) 36)
  have R0 : RBx (w.alloc (.cells (rva s.bs v) 36)) w.heap.size s.bs v := heap_alloc_new w _
  have XX := Lib.hid X
  have HB := g.len
  obtain ⟨l, hl⟩ : ∃ l, flat s.L = l := ⟨_, rfl⟩
  have hll := hv.len
  rw [hl] at hv hll
  obtain ⟨ao, cap, rfl⟩ := hv.shape
  obtain ⟨w0, hw0⟩ : ∃ z, w.alloc (.cells (rva s.bs (.slice ao l.length cap)) 36) = z := ⟨_, rfl⟩
  rw [hw0] at X R0
  have H0 := h.step X
  have V0 := hv.step X
  have LRR := Lib.hid (fun W (hb : Below w0.heap.size w0 W) => (R0.step hb).ldR HB)
  have LB := Lib.hid (fun W (hb : Below w0.heap.size w0 W) => (R0.step hb).ldB HB)
  have LV := Lib.hid (fun W (hb : Below w0.heap.size w0 W) => ldV ((R0.step hb).cv HB))
  have KP := Lib.hid (fun W (hb : Below w0.heap.size w0 W) => (show Calls Tryd.prog 24 #[pv b] W fun e w' => e = .returned (.agg (va (kn s.bs s.L))) ∧ Below W.heap.size W w' from known_any W B b s m (H0.step hb) g (by omega)))
  have KR := Lib.hid (fun W (hb : Below w0.heap.size w0 W) => (show Calls Tryd.prog 33 #[.agg (rva s.bs (.slice ao l.length cap))] W fun e w' => e = .returned (.agg (va (kn s.bs s.L))) ∧ Below W.heap.size W w' from by
    have := rknown_any W s.bs ⟨g.len, fun i x hx => by have := g.bb i x hx; omega⟩ _ l (V0.step hb) (fun o ho => by rw [← hl] at ho; obtain ⟨k, hk, ho⟩ := mem_flat ho; rw [g.rep k hk o ho]; omega) (by rw [← hl]; have := flat_le g; omega)
    rwa [show l.foldl knS s.bs = kn s.bs s.L by rw [← hl]; exact kn_flat g] at this))
  have BP := Lib.hid (fun W (hb : Below w0.heap.size w0 W) => (show Calls Tryd.prog 26 #[pv b] W fun e w' => e = .returned (.agg (va s.bs)) ∧ Below W.heap.size W w' from base_any W B b s (H0.step hb)))
  have LP := Lib.hid (fun W (hb : Below w0.heap.size w0 W) => (show Calls Tryd.prog 27 #[pv b] W fun e w' => e = .returned (.int .i64 (l.length : Int)) ∧ Below W.heap.size W w' from by
    have := len_any W B b s m (H0.step hb) g (by omega)
    rwa [len_is g (by omega), hl] at this))
  have AP := Lib.hid (fun W (hb : Below w0.heap.size w0 W) => (show Calls Tryd.prog 25 #[pv b] W fun e w' => ∃ r, e = .returned r ∧ OLies w' r l ∧ Below W.heap.size W w' from by
    refine (all_any W B b s m (H0.step hb) g (by omega)).mono ?_
    rintro e w' ⟨r, rfl, h1⟩
    rw [hl] at h1
    exact ⟨r, rfl, own_olies h1.1, h1.2⟩))
  have SM := Lib.hid (fun W r (hb : Below w0.heap.size w0 W) (h1 : OLies W r l) => (show Calls Tryd.prog 19 #[r, .slice ao l.length cap] W fun e w' => e = .returned (.bool true) ∧ Below W.heap.size W w' from by
    have := rsameO_any W r _ l l h1 (V0.step hb)
    rwa [sameO_self] at this))
  have TP := Lib.hid (fun W (hb : Below w0.heap.size w0 W) => (show Calls Tryd.prog 28 #[pv b] W fun e w' => e = .returned (.int .i64 (maxT l 0)) ∧ Below W.heap.size W w' from by
    refine (time_any W B b s m (H0.step hb) g (by omega)).mono ?_
    rintro e w' ⟨h1, h2⟩
    rw [← time_flat g, hl] at h1
    exact ⟨h1, by rw [← h2]; exact Below.refl _ _⟩))
  have TR := Lib.hid (fun W (hb : Below w0.heap.size w0 W) => rtime_any2 W s.bs HB _ l (V0.step hb))
  have KL := Lib.hid (kn_len s.bs s.L)
  have HBH := Lib.hid HB
  obtain ⟨A, hA⟩ : ∃ A, rva s.bs (.slice ao l.length cap) = A := ⟨_, rfl⟩
  rw [hA] at LRR KR TR ⊢
  obtain ⟨K, hK⟩ : ∃ K, kn s.bs s.L = K := ⟨_, rfl⟩
  rw [hK] at KP KR KL
  obtain ⟨bs, hbs⟩ : ∃ bs, s.bs = bs := ⟨_, rfl⟩
  rw [hbs] at LB BP HBH
  have HW0 := Lib.hid (show w.alloc (.cells A 36) = w0 by rw [← hA]; exact hw0)
  rw [hw0] at XX
  clear hA hK hbs hw0 X R0 H0 V0 h g hv HB hl
  generalize maxT l 0 = tt at *
  go_enter Tryd.func16, Tryd.ntmps16
  go_upto_region 1 with fail
  rw [HW0.out]
  refine wp_region_held_drew (S := fun w' => Below w0.heap.size w0 w') (by kernel_rfl) (Below.refl _ _).drew (fun hHeld => ?_)
  have BV := Lib.hid (show Below w0.heap.size w0 w0.drew from (Below.refl _ _).drew)
  clear hHeld
  refine take_at (i := 0) 5 ?_ rfl rfl (by kernel_rfl) (by kernel_rfl) (by kernel_rfl) (fun _ _ _ h => h) (.inl ⟨rfl, ?_⟩) BV.out ?_
  rotate_left 1
  · intro w hSw; go_simp; try with_reducible rfl
  simp only [Act.put, List.setIfInBounds_toArray, List.set_cons_zero, List.set_cons_succ]
  refine take_at (i := 2) 7 (.agg A) rfl rfl (by kernel_rfl) (by kernel_rfl) (by kernel_rfl) (fun _ _ _ h => h) (yields_ld (.tmp 3) 36 (pvo w.heap.size 0) _ (fun W h => LRR.out W h) rfl rfl rfl) BV.out ?_
  simp only [Act.put, List.setIfInBounds_toArray, List.set_cons_zero, List.set_cons_succ]
  refine wpAnyH_ready (rs := [1]) (by kernel_rfl) (by simp) (br_call (i := 1) 6 24 #[pv b] rfl rfl rfl (by go_simp) ((KP.out _ BV.out).mono ?_) AllReadyH.nil)
  rintro e v1 ⟨rfl, hb⟩
  have BV := Lib.hid (BV.out.trans (hb.mono BV.out.size))
  clear hb
  refine ⟨_, rfl, BV.out, fun _ => ?_⟩
  simp only [Act.put, List.setIfInBounds_toArray, List.set_cons_zero, List.set_cons_succ]
  refine wpAnyH_ready (rs := [3]) (by kernel_rfl) (by simp) (br_call (i := 3) 8 33 #[.agg A] rfl rfl rfl (by go_simp) ((KR.out _ BV.out).mono ?_) AllReadyH.nil)
  rintro e v2 ⟨rfl, hb⟩
  have BV := Lib.hid (BV.out.trans (hb.mono BV.out.size))
  clear hb
  refine ⟨_, rfl, BV.out, fun _ => ?_⟩
  simp only [Act.put, List.setIfInBounds_toArray, List.set_cons_zero, List.set_cons_succ]
  refine take_at (i := 4) 9 (.bool true) rfl rfl (by kernel_rfl) (by kernel_rfl) (by kernel_rfl) (fun _ _ _ h => h) (yields_eqV (.tmp 6) (.tmp 8) K KL.out rfl rfl rfl rfl) BV.out ?_
  simp only [Act.put, List.setIfInBounds_toArray, List.set_cons_zero, List.set_cons_succ]
  refine take_at (i := 5) 10 ?_ rfl rfl (by kernel_rfl) (by kernel_rfl) (by kernel_rfl) (fun _ _ _ h => h) (.inl ⟨rfl, ?_⟩) BV.out ?_
  rotate_left 1
  · intro w hSw; go_simp; try with_reducible rfl
  simp only [Act.put, List.setIfInBounds_toArray, List.set_cons_zero, List.set_cons_succ]
  refine take_at (i := 6) 11 ?_ rfl rfl (by kernel_rfl) (by kernel_rfl) (by kernel_rfl) (fun _ _ _ h => h) (.inl ⟨rfl, ?_⟩) BV.out ?_
  rotate_left 1
  · intro w hSw; go_simp; try with_reducible rfl
  simp only [Act.put, List.setIfInBounds_toArray, List.set_cons_zero, List.set_cons_succ]
  refine take_at (i := 8) 13 ?_ rfl rfl (by kernel_rfl) (by kernel_rfl) (by kernel_rfl) (fun _ _ _ h => h) (.inl ⟨rfl, ?_⟩) BV.out ?_
  rotate_left 1
  · intro w hSw; go_simp; try with_reducible rfl
  simp only [Act.put, List.setIfInBounds_toArray, List.set_cons_zero, List.set_cons_succ]
  refine take_at (i := 9) 14 (.agg (va bs)) rfl rfl (by kernel_rfl) (by kernel_rfl) (by kernel_rfl) (fun _ _ _ h => h) (yields_ld (.tmp 13) 26 (pvo w.heap.size 0) _ (fun W h => LB.out W h) rfl rfl rfl) BV.out ?_
  simp only [Act.put, List.setIfInBounds_toArray, List.set_cons_zero, List.set_cons_succ]
  refine wpAnyH_ready (rs := [7]) (by kernel_rfl) (by simp) (br_call (i := 7) 12 26 #[pv b] rfl rfl rfl (by go_simp) ((BP.out _ BV.out).mono ?_) AllReadyH.nil)
  rintro e v3 ⟨rfl, hb⟩
  have BV := Lib.hid (BV.out.trans (hb.mono BV.out.size))
  clear hb
  refine ⟨_, rfl, BV.out, fun _ => ?_⟩
  simp only [Act.put, List.setIfInBounds_toArray, List.set_cons_zero, List.set_cons_succ]
  refine take_at (i := 10) 15 (.bool true) rfl rfl (by kernel_rfl) (by kernel_rfl) (by kernel_rfl) (fun _ _ _ h => h) (yields_eqV (.tmp 12) (.tmp 14) bs HBH.out rfl rfl rfl rfl) BV.out ?_
  simp only [Act.put, List.setIfInBounds_toArray, List.set_cons_zero, List.set_cons_succ]
  refine take_at (i := 11) 16 ?_ rfl rfl (by kernel_rfl) (by kernel_rfl) (by kernel_rfl) (fun _ _ _ h => h) (.inl ⟨rfl, ?_⟩) BV.out ?_
  rotate_left 1
  · intro w hSw; go_simp; try with_reducible rfl
  simp only [Act.put, List.setIfInBounds_toArray, List.set_cons_zero, List.set_cons_succ]
  refine take_at (i := 12) 17 ?_ rfl rfl (by kernel_rfl) (by kernel_rfl) (by kernel_rfl) (fun _ _ _ h => h) (.inl ⟨rfl, ?_⟩) BV.out ?_
  rotate_left 1
  · intro w hSw; go_simp; try with_reducible rfl
  simp only [Act.put, List.setIfInBounds_toArray, List.set_cons_zero, List.set_cons_succ]
  refine take_at (i := 13) 18 ?_ rfl rfl (by kernel_rfl) (by kernel_rfl) (by kernel_rfl) (fun _ _ _ h => h) (.inl ⟨rfl, ?_⟩) BV.out ?_
  rotate_left 1
  · intro w hSw; go_simp; try with_reducible rfl
  simp only [Act.put, List.setIfInBounds_toArray, List.set_cons_zero, List.set_cons_succ]
  refine take_at (i := 15) 20 ?_ rfl rfl (by kernel_rfl) (by kernel_rfl) (by kernel_rfl) (fun _ _ _ h => h) (.inl ⟨rfl, ?_⟩) BV.out ?_
  rotate_left 1
  · intro w hSw; go_simp; try with_reducible rfl
  simp only [Act.put, List.setIfInBounds_toArray, List.set_cons_zero, List.set_cons_succ]
  refine take_at (i := 16) 21 (.slice ao l.length cap) rfl rfl (by kernel_rfl) (by kernel_rfl) (by kernel_rfl) (fun _ _ _ h => h) (yields_ld (.tmp 20) 34 (pvo w.heap.size 64) _ (fun W h => LV.out W h) rfl rfl rfl) BV.out ?_
  simp only [Act.put, List.setIfInBounds_toArray, List.set_cons_zero, List.set_cons_succ]
  refine take_at (i := 17) 22 ?_ rfl rfl (by kernel_rfl) (by kernel_rfl) (by kernel_rfl) (fun _ _ _ h => h) (.inl ⟨rfl, ?_⟩) BV.out ?_
  rotate_left 1
  · intro w hSw; go_simp; try with_reducible rfl
  simp only [Act.put, List.setIfInBounds_toArray, List.set_cons_zero, List.set_cons_succ]
  refine wpAnyH_ready (rs := [14]) (by kernel_rfl) (by simp) (br_call (i := 14) 19 27 #[pv b] rfl rfl rfl (by go_simp) ((LP.out _ BV.out).mono ?_) AllReadyH.nil)
  rintro e v4 ⟨rfl, hb⟩
  have BV := Lib.hid (BV.out.trans (hb.mono BV.out.size))
  clear hb
  refine ⟨_, rfl, BV.out, fun _ => ?_⟩
  simp only [Act.put, List.setIfInBounds_toArray, List.set_cons_zero, List.set_cons_succ]
  refine take_at (i := 18) 23 ?_ rfl rfl (by kernel_rfl) (by kernel_rfl) (by kernel_rfl) (fun _ _ _ h => h) (.inl ⟨rfl, ?_⟩) BV.out ?_
  rotate_left 1
  · intro w hSw; go_simp; try with_reducible rfl
  simp only [Act.put, List.setIfInBounds_toArray, List.set_cons_zero, List.set_cons_succ]
  refine take_at (i := 19) 24 ?_ rfl rfl (by kernel_rfl) (by kernel_rfl) (by kernel_rfl) (fun _ _ _ h => h) (.inl ⟨rfl, ?_⟩) BV.out ?_
  rotate_left 1
  · intro w hSw; go_simp; try with_reducible rfl
  simp only [Act.put, List.setIfInBounds_toArray, List.set_cons_zero, List.set_cons_succ]
  refine take_at (i := 20) 25 ?_ rfl rfl (by kernel_rfl) (by kernel_rfl) (by kernel_rfl) (fun _ _ _ h => h) (.inl ⟨rfl, ?_⟩) BV.out ?_
  rotate_left 1
  · intro w hSw; go_simp; try with_reducible rfl
  simp only [Act.put, List.setIfInBounds_toArray, List.set_cons_zero, List.set_cons_succ]
  refine take_at (i := 21) 26 ?_ rfl rfl (by kernel_rfl) (by kernel_rfl) (by kernel_rfl) (fun _ _ _ h => h) (.inl ⟨rfl, ?_⟩) BV.out ?_
  rotate_left 1
  · intro w hSw; go_simp; try with_reducible rfl
  simp only [Act.put, List.setIfInBounds_toArray, List.set_cons_zero, List.set_cons_succ]
  refine take_at (i := 23) 28 ?_ rfl rfl (by kernel_rfl) (by kernel_rfl) (by kernel_rfl) (fun _ _ _ h => h) (.inl ⟨rfl, ?_⟩) BV.out ?_
  rotate_left 1
  · intro w hSw; go_simp; try with_reducible rfl
  simp only [Act.put, List.setIfInBounds_toArray, List.set_cons_zero, List.set_cons_succ]
  refine take_at (i := 24) 29 (.slice ao l.length cap) rfl rfl (by kernel_rfl) (by kernel_rfl) (by kernel_rfl) (fun _ _ _ h => h) (yields_ld (.tmp 28) 34 (pvo w.heap.size 64) _ (fun W h => LV.out W h) rfl rfl rfl) BV.out ?_
  simp only [Act.put, List.setIfInBounds_toArray, List.set_cons_zero, List.set_cons_succ]
  refine wpAnyH_ready (rs := [22]) (by kernel_rfl) (by simp) (br_call (i := 22) 27 25 #[pv b] rfl rfl rfl (by go_simp) ((AP.out _ BV.out).mono ?_) AllReadyH.nil)
  rintro e v5 ⟨r1, rfl, hr1, hb⟩
  have BV := Lib.hid (BV.out.trans (hb.mono BV.out.size))
  have AR := Lib.hid hr1
  clear hr1
  clear hb
  refine ⟨_, rfl, BV.out, fun _ => ?_⟩
  simp only [Act.put, List.setIfInBounds_toArray, List.set_cons_zero, List.set_cons_succ]
  refine wpAnyH_ready (rs := [25]) (by kernel_rfl) (by simp) (br_call (i := 25) 30 19 #[r1, .slice ao l.length cap] rfl rfl rfl (by go_simp) ((SM.out _ _ BV.out AR.out).mono ?_) AllReadyH.nil)
  rintro e v6 ⟨rfl, hb⟩
  have BV := Lib.hid (BV.out.trans (hb.mono BV.out.size))
  have AR := Lib.hid (AR.out.step hb)
  clear hb
  refine ⟨_, rfl, BV.out, fun _ => ?_⟩
  simp only [Act.put, List.setIfInBounds_toArray, List.set_cons_zero, List.set_cons_succ]
  refine take_at (i := 26) 31 ?_ rfl rfl (by kernel_rfl) (by kernel_rfl) (by kernel_rfl) (fun _ _ _ h => h) (.inl ⟨rfl, ?_⟩) BV.out ?_
  rotate_left 1
  · intro w hSw; go_simp; try with_reducible rfl
  simp only [Act.put, List.setIfInBounds_toArray, List.set_cons_zero, List.set_cons_succ]
  refine take_at (i := 27) 32 ?_ rfl rfl (by kernel_rfl) (by kernel_rfl) (by kernel_rfl) (fun _ _ _ h => h) (.inl ⟨rfl, ?_⟩) BV.out ?_
  rotate_left 1
  · intro w hSw; go_simp; try with_reducible rfl
  simp only [Act.put, List.setIfInBounds_toArray, List.set_cons_zero, List.set_cons_succ]
  refine take_at (i := 28) 33 ?_ rfl rfl (by kernel_rfl) (by kernel_rfl) (by kernel_rfl) (fun _ _ _ h => h) (.inl ⟨rfl, ?_⟩) BV.out ?_
  rotate_left 1
  · intro w hSw; go_simp; try with_reducible rfl
  simp only [Act.put, List.setIfInBounds_toArray, List.set_cons_zero, List.set_cons_succ]
  refine take_at (i := 30) 35 (.agg A) rfl rfl (by kernel_rfl) (by kernel_rfl) (by kernel_rfl) (fun _ _ _ h => h) (yields_ld (.tmp 3) 36 (pvo w.heap.size 0) _ (fun W h => LRR.out W h) rfl rfl rfl) BV.out ?_
  simp only [Act.put, List.setIfInBounds_toArray, List.set_cons_zero, List.set_cons_succ]
  refine wpAnyH_ready (rs := [29]) (by kernel_rfl) (by simp) (br_call (i := 29) 34 28 #[pv b] rfl rfl rfl (by go_simp) ((TP.out _ BV.out).mono ?_) AllReadyH.nil)
  rintro e v7 ⟨rfl, hb⟩
  have BV := Lib.hid (BV.out.trans (hb.mono BV.out.size))
  have AR := Lib.hid (AR.out.step hb)
  clear hb
  refine ⟨_, rfl, BV.out, fun _ => ?_⟩
  simp only [Act.put, List.setIfInBounds_toArray, List.set_cons_zero, List.set_cons_succ]
  refine wpAnyH_ready (rs := [31]) (by kernel_rfl) (by simp) (br_call (i := 31) 36 41 #[.agg A] rfl rfl rfl (by go_simp) ((TR.out _ BV.out).mono ?_) AllReadyH.nil)
  rintro e v8 ⟨rfl, hb⟩
  have BV := Lib.hid (BV.out.trans (hb.mono BV.out.size))
  have AR := Lib.hid (AR.out.step hb)
  clear hb
  refine ⟨_, rfl, BV.out, fun _ => ?_⟩
  simp only [Act.put, List.setIfInBounds_toArray, List.set_cons_zero, List.set_cons_succ]
  refine take_at (i := 32) 37 ?_ rfl rfl (by kernel_rfl) (by kernel_rfl) (by kernel_rfl) (fun _ _ _ h => h) (.inl ⟨rfl, ?_⟩) BV.out ?_
  rotate_left 1
  · intro w hSw; go_simp; try with_reducible rfl
  simp only [Act.put, List.setIfInBounds_toArray, List.set_cons_zero, List.set_cons_succ]
  refine take_at (i := 33) 38 ?_ rfl rfl (by kernel_rfl) (by kernel_rfl) (by kernel_rfl) (fun _ _ _ h => h) (.inl ⟨rfl, ?_⟩) BV.out ?_
  rotate_left 1
  · intro w hSw; go_simp; try with_reducible rfl
  simp only [Act.put, List.setIfInBounds_toArray, List.set_cons_zero, List.set_cons_succ]
  refine take_at (i := 34) 4 ?_ rfl rfl (by kernel_rfl) (by kernel_rfl) (by kernel_rfl) (fun _ _ _ h => h) (.inl ⟨rfl, ?_⟩) BV.out ?_
  rotate_left 1
  · intro w hSw; go_simp; try with_reducible rfl
  simp only [Act.put, List.setIfInBounds_toArray, List.set_cons_zero, List.set_cons_succ]
  refine wpAnyH_done (by kernel_rfl) ?_ _
  have FIN := Lib.hid (XX.out.trans (BV.out.mono XX.out.size))
  clear BV KP KR BP LP AP SM TP TR LRR LB LV
  go_wp2
  go_returns
  exact ⟨by first | rfl | simp, FIN.out⟩
end Go.Proofs.YtgnnpfainoppeaaDoor

set_option linter.unusedVariables false
set_option linter.unusedSimpArgs false
set_option maxRecDepth 100000
namespace Go.Proofs.YtgnnpfainoppeaaDoor
open Go.RowKit
open Ve (zs zs_len vw va RightP)

structure PM (w0 w : World) (b g : Nat) (bh : List Int) (Lh : Nat → List O) (br : List Int) (Lr : Nat → List O) (v : Value) : Prop where
  bel : Below w0.heap.size w0 w
  gw : w0.heap.size ≤ g
  hold : ∃ s : HS, HK w w0.heap.size b s ∧ s.md = true ∧ s.bs = bh ∧ s.L = Lh ∧ ¬ HasH b s g ∧ Apart b s v
  ref : RBx w g br v
  row : w.ownsRow w0.heap.size 40 9 v (flat Lr).length (cs9 (flat Lr))
  vg : v.ownBlock ≠ some g
section
variable {w0 w w1 w' : World} {b g m : Nat} {bh br : List Int} {Lh Lr : Nat → List O} {v : Value}
theorem PM.step (h : PM w0 w b g bh Lh br Lr v) (hb : Below w.heap.size w w') : PM w0 w' b g bh Lh br Lr v := by
  obtain ⟨h0, h1, ⟨s, k1, k2, k3, k4, k5, k6⟩, h3, h4, h5⟩ := h
  exact ⟨h0.trans (hb.mono h0.size), h1, ⟨s, k1.step hb, k2, k3, k4, k5, k6⟩, h3.step hb, own_keep h4 hb, h5⟩
/-- The reference's box is another one. -/
theorem PM.setref (h : PM w0 w1 b g bh Lh br Lr v) (hb : Below w1.heap.size w1 w) (br' : List Int) (Lr' : Nat → List O) (v' : Value)
    (hv : (v' = v ∧ flat Lr' = flat Lr) ∨ w.ownsRow w1.heap.size 40 9 v' (flat Lr').length (cs9 (flat Lr'))) : PM w0 (w.setRow g (rva br' v')) b g bh Lh br' Lr' v' := by
  have hgl := lt_of_block h.ref
  obtain ⟨h0, h1, ⟨s, k1, k2, k3, k4, k5, k6⟩, h3, h4, h5⟩ := h
  have hf : Far (fun k => k = g) w (w.setRow g (rva br' v')) := ⟨rfl, rfl, rfl, by simp [World.setRow], fun k _ hn => setRow_other _ _ _ _ hn⟩
  have b0 := h0.trans (hb.mono h0.size)
  have hrow : w.ownsRow w0.heap.size 40 9 v' (flat Lr').length (cs9 (flat Lr')) := by
    rcases hv with ⟨e1, e2⟩ | hr
    · rw [e1, e2]; exact own_keep h4 hb
    · exact Ve.own_less hr h0.size
  have hvg : v'.ownBlock ≠ some g := by
    rcases hv with ⟨e1, _⟩ | hr
    · rw [e1]; exact h5
    · intro e; have := (own_lt hr g e).1; omega
  refine ⟨b0.trans (hf.below b0.size (fun k q => by subst q; exact h1)), h1, ⟨s, (k1.step hb).still hf (fun k q e => k5 (by rw [← e]; exact q)), k2, k3, k4, k5, fun k e q => ?_⟩, (h3.step hb).row, hf.row hrow (fun j e q => hvg (by rw [e, q])), hvg⟩
  rcases hv with ⟨e1, _⟩ | hr
  · exact k6 k (by rw [← e1]; exact e) q
  · have h6 := (own_lt hr k e).1
    have h7 := (k1.base k q).2
    omega
theorem PM.put (h : PM w0 w b g bh Lh br Lr v) (gd : Gd bh Lh m) (hm : m ≤ 999) (o : O) (hz : o.nm.size ≤ 1000000) :
    Calls Tryd.prog 13 #[pv b, oV o] w fun e w' => e = .returned (.int .i64 (putI bh Lh o)) ∧ PM w0 w' b g bh (putL bh Lh o) br Lr v := by
  obtain ⟨h0, h1, ⟨s, k1, k2, rfl, rfl, k5, k6⟩, h3, h4, h5⟩ := h
  refine (put_any w w0.heap.size b s m k1 k2 gd hm h0.size o hz).mono ?_
  rintro e w' ⟨t, rfl, ho, j1, j2, j3⟩
  have hlt := own_lt h4
  have hgl := lt_of_block h3
  refine ⟨rfl, h0.trans (ho.below k1 h0.size), h1, ⟨t, ho.hk, j1, j2, j3, fun q => ?_, k6.out ho (fun k hk => (hlt k hk).2)⟩, (ho.far.block g hgl k5).trans h3, ho.far.row h4 (fun j e => k6 j e), h5⟩
  rcases ho.sub g q with q | q
  · exact k5 q
  · omega
theorem PM.trim (h : PM w0 w b g bh Lh br Lr v) (gd : Gd bh Lh m) (hm : m ≤ 999) (vv : List Int) (hvv : vv.length = 64) (ft fr : Int) :
    Calls Tryd.prog 15 #[pv b, vw vv, .agg #[.int .i64 ft, .int .i64 fr]] w fun e w' => e = .returned (.int .i64 (trN vv ft fr Lh 64)) ∧ ∃ Lt, (∀ k, k < 64 → Lt k = trL vv ft fr Lh k) ∧ PM w0 w' b g (trB vv ft fr Lh bh 64) Lt br Lr v := by
  obtain ⟨h0, h1, ⟨s, k1, k2, rfl, rfl, k5, k6⟩, h3, h4, h5⟩ := h
  refine (trim_any w w0.heap.size b s m k1 gd (by omega) h0.size vv hvv ft fr).mono ?_
  rintro e w' ⟨rfl, t, ht⟩
  have ho := ht.out
  have hlt := own_lt h4
  have hgl := lt_of_block h3
  refine ⟨rfl, t.L, fun k hk => by rw [ht.L k hk, if_pos hk], h0.trans (ho.below k1 h0.size), h1, ⟨t, ho.hk, ht.md.trans k2, ht.bs, rfl, fun q => ?_, k6.out ho (fun k hk => (hlt k hk).2)⟩, (ho.far.block g hgl k5).trans h3, ho.far.row h4 (fun j e => k6 j e), h5⟩
  rcases ho.sub g q with q | q
  · exact k5 q
  · omega
theorem PM.same (h : PM w0 w b g bh Lh bh Lh v) (gd : Gd bh Lh m) (hm : m ≤ 500) : Calls Tryd.prog 16 #[pv b, .agg (rva bh v)] w fun e w' => e = .returned (.bool true) ∧ Below w.heap.size w w' := by
  obtain ⟨h0, h1, ⟨s, k1, k2, rfl, rfl, k5, k6⟩, h3, h4, h5⟩ := h
  exact same_law w w0.heap.size b s m k1 gd hm v (own_olies h4)
theorem PM.get (h : PM w0 w b g bh Lh br Lr v) (gd : Gd bh Lh m) (hm : m ≤ 1000) (r q : Int) : Calls Tryd.prog 17 #[pv b, .int .i64 r, .int .i64 q] w fun e w' => e = .returned (getO Lh r q) ∧ Below w.heap.size w w' := by
  obtain ⟨h0, h1, ⟨s, k1, k2, rfl, rfl, k5, k6⟩, h3, h4, h5⟩ := h
  exact Go.Proofs.YtgnnpfainoppeaaDoor.get_any w w0.heap.size b s m k1 gd hm r q
end
theorem Gd.congr {bs : List Int} {L L' : Nat → List O} {m : Nat} (g : Gd bs L m) (h : ∀ k, k < 64 → L' k = L k) : Gd bs L' m :=
  ⟨g.len, g.bb, fun i hi o ho => g.rep i hi o (by rw [← h i hi]; exact ho), fun i x hi hx j o ho => g.seq i x hi hx j o (by rw [← h i hi]; exact ho), fun i hi => by rw [h i hi]; exact g.up i hi, fun i hi o ho => g.pos i hi o (by rw [← h i hi]; exact ho), fun i hi => by rw [h i hi]; exact g.cnt i hi⟩
/-- What stands behind the reference's Put, its answer stored in a new box. -/
def Aft18 (wr wx : World) (bh : List Int) (Lh : Nat → List O) (o : O) (v : Value) (k14 : Nat) (v5 : Value) : Prop :=
  RBx wx k14 bh v5 ∧ Below wr.heap.size wr wx ∧ ((v5 = v ∧ flat (putL bh Lh o) = flat Lh) ∨ wx.ownsRow wr.heap.size 40 9 v5 (flat (putL bh Lh o)).length (cs9 (flat (putL bh Lh o))))
theorem aft18 {wr W w5 : World} {bh : List Int} {Lh : Nat → List O} {o : O} {v v5 : Value} {k14 : Nat} (hb64 : bh.length = 64) (hb : Below wr.heap.size wr W) (hbx : Below W.heap.size W w5) (hk : wr.heap.size ≤ k14) (hr : RBx w5 k14 zs (.slice none 0 0)) (hv1 : v.oneCell' = true)
    (hc : (v5 = v ∧ putL bh Lh o = Lh) ∨ (w5.ownsRow W.heap.size 40 9 v5 (flat (putL bh Lh o)).length (cs9 (flat (putL bh Lh o))) ∧ v5.ownBlock ≠ some k14)) :
    (Instr.storeAt 36 (.pointer (some ⟨k14, 0, none⟩)) (.agg (rva bh v5))).run Tryd.prog w5 = .ok () (w5.setRow k14 (rva bh v5)) ∧ Aft18 wr (w5.setRow k14 (rva bh v5)) bh Lh o v k14 v5 := by
  have h1 : v5.oneCell' = true := by
    rcases hc with ⟨e, _⟩ | ⟨h, _⟩
    · rw [e]; exact hv1
    · exact (own_olies h).one
  have hf : Far (fun k => k = k14) w5 (w5.setRow k14 (rva bh v5)) := ⟨rfl, rfl, rfl, by simp [World.setRow], fun k _ hn => setRow_other _ _ _ _ hn⟩
  have b5 := hb.trans (hbx.mono hb.size)
  refine ⟨store36 w5 k14 zs bh (.slice none 0 0) v5 zs_len hb64 h1 hr, hr.row, b5.trans (hf.below b5.size (fun k q => by subst q; exact hk)), ?_⟩
  rcases hc with ⟨e1, e2⟩ | ⟨h, hne⟩
  · exact .inl ⟨e1, by rw [e2]⟩
  · exact .inr (Ve.own_less (hf.row h (fun j e q => hne (by rw [e, q]))) hb.size)
theorem h5a {W w5 : World} {v v5 : Value} {p : Prop} {n k14 : Nat} {cs : List Value} (hk : k14 < W.heap.size) (h : (v5 = v ∧ p) ∨ w5.ownsRow W.heap.size 40 9 v5 n cs) : (v5 = v ∧ p) ∨ (w5.ownsRow W.heap.size 40 9 v5 n cs ∧ v5.ownBlock ≠ some k14) :=
  h.imp id fun h => ⟨h, fun e => by have := (own_lt h k14 e).1; omega⟩
theorem h5b {W w5 w6 : World} {v v5 : Value} {p : Prop} {n : Nat} {cs : List Value} (hb : Below w5.heap.size w5 w6) (h : (v5 = v ∧ p) ∨ w5.ownsRow W.heap.size 40 9 v5 n cs) : (v5 = v ∧ p) ∨ (w6.ownsRow W.heap.size 40 9 v5 n cs ∧ v5.ownBlock ≠ some w5.heap.size) :=
  h.imp id fun h => ⟨own_keep h hb, fun e => by have := (own_lt h _ e).2; omega⟩
/-- The same behind the reference's Trim. -/
def Aft23 (wr wx : World) (bs : List Int) (l : List O) (k14 : Nat) (v5 : Value) : Prop :=
  RBx wx k14 bs v5 ∧ Below wr.heap.size wr wx ∧ wx.ownsRow wr.heap.size 40 9 v5 l.length (cs9 l)
theorem aft23 {wr W w5 : World} {bs : List Int} {l : List O} {v v5 : Value} {k14 : Nat} (hb64 : bs.length = 64) (hb : Below wr.heap.size wr W) (hbx : Below W.heap.size W w5) (hk : wr.heap.size ≤ k14) (hr : RBx w5 k14 zs (.slice none 0 0))
    (hc : (v5 = v ∧ False) ∨ (w5.ownsRow W.heap.size 40 9 v5 l.length (cs9 l) ∧ v5.ownBlock ≠ some k14)) :
    (Instr.storeAt 36 (.pointer (some ⟨k14, 0, none⟩)) (.agg (rva bs v5))).run Tryd.prog w5 = .ok () (w5.setRow k14 (rva bs v5)) ∧ Aft23 wr (w5.setRow k14 (rva bs v5)) bs l k14 v5 := by
  obtain ⟨h, hne⟩ := hc.resolve_left (fun h => h.2)
  have hf : Far (fun k => k = k14) w5 (w5.setRow k14 (rva bs v5)) := ⟨rfl, rfl, rfl, by simp [World.setRow], fun k _ hn => setRow_other _ _ _ _ hn⟩
  have b5 := hb.trans (hbx.mono hb.size)
  exact ⟨store36 w5 k14 zs bs (.slice none 0 0) v5 zs_len hb64 (own_olies h).one hr, hr.row, b5.trans (hf.below b5.size (fun k q => by subst q; exact hk)), Ve.own_less (hf.row h (fun j e q => hne (by rw [e, q]))) hb.size⟩
theorem PM.go18 {w wr wq : World} {b g k14 : Nat} {bh : List Int} {Lh : Nat → List O} {o : O} {v v5 : Value} (h : PM w wr b g bh Lh bh Lh v) (hl : bh.length = 64) (hA : Aft18 wr wq bh Lh o v k14 v5) :
    (Instr.loadAt 36 (.pointer (some ⟨k14, 0, none⟩))).run Tryd.prog wq = .ok (.agg (rva bh v5)) wq ∧ ∃ w8, (Instr.storeAt 36 (.pointer (some ⟨g, 0, none⟩)) (.agg (rva bh v5))).run Tryd.prog wq = .ok () w8 ∧ PM w w8 b g bh Lh bh (putL bh Lh o) v5 := by
  obtain ⟨h1, h2, h3⟩ := hA
  have hone : v5.oneCell' = true := by
    rcases h3 with ⟨e, _⟩ | h3
    · rw [e]; exact (own_olies h.row).one
    · exact (own_olies h3).one
  exact ⟨h1.ldR hl, _, store36 wq g bh bh v v5 hl hl hone (h.ref.step h2), h.setref h2 bh _ v5 h3⟩
theorem PM.go23 {w wr wq : World} {b g k14 : Nat} {bh bt : List Int} {Lh Lt : Nat → List O} {v v5 : Value} (h : PM w wr b g bh Lh bh Lh v) (hl : bh.length = 64) (ht : bt.length = 64) (hA : Aft23 wr wq bt (flat Lt) k14 v5) :
    (Instr.loadAt 36 (.pointer (some ⟨k14, 0, none⟩))).run Tryd.prog wq = .ok (.agg (rva bt v5)) wq ∧ ∃ w8, (Instr.storeAt 36 (.pointer (some ⟨g, 0, none⟩)) (.agg (rva bt v5))).run Tryd.prog wq = .ok () w8 ∧ PM w w8 b g bh Lh bt Lt v5 := by
  obtain ⟨h1, h2, h3⟩ := hA
  exact ⟨h1.ldR ht, _, store36 wq g bh bt v v5 hl ht (own_olies h3).one (h.ref.step h2), h.setref h2 bt _ v5 (.inr h3)⟩
theorem Gd.qr {bs : List Int} {L : Nat → List O} {m : Nat} (g : Gd bs L m) : ∀ o ∈ flat L, (0 ≤ o.q ∧ o.q ≤ 4294967296) ∧ (0 ≤ o.r ∧ o.r < 64) := by
  intro o ho
  obtain ⟨k, hk, ho⟩ := mem_flat ho
  obtain ⟨x, hx⟩ : ∃ x, bs[k]? = some x := ⟨bs[k]'(by have := g.len; omega), List.getElem?_eq_getElem _⟩
  obtain ⟨j, hj⟩ := List.mem_iff_getElem?.1 ho
  have h1 := g.seq k x hk hx j o hj
  have h2 := g.bb k x hx
  have h3 := g.pos k hk o ho
  have h4 := g.rep k hk o ho
  omega
theorem PM.congr {w0 w : World} {b g : Nat} {bh br : List Int} {Lh Lr Lr' : Nat → List O} {v : Value} (h : PM w0 w b g bh Lh br Lr v) (hc : ∀ k, k < 64 → Lr' k = Lr k) : PM w0 w b g bh Lh br Lr' v :=
  ⟨h.bel, h.gw, h.hold, h.ref, by rw [flat_congr hc]; exact h.row, h.vg⟩
theorem LiesO.step {w w' : World} {v : Value} {l : List (Nat × Int)} (h : Ve.LiesO w v l) (hb : Below w.heap.size w w') : Ve.LiesO w' v l := by
  obtain ⟨ao, cap, e, h1, h2, h3⟩ := h
  refine ⟨ao, cap, e, h1, h2, fun b hb' hne => ?_⟩
  obtain ⟨k, o, rfl, hk, hc⟩ := h3 b hb' hne
  refine ⟨k, o, rfl, Nat.lt_of_lt_of_le hk hb.size, fun j p hp => ?_⟩
  obtain ⟨c0, c1, c2⟩ := hc j p hp
  exact ⟨c0, (hb.cell hk).trans c1, (hb.cell hk).trans c2⟩
theorem ldV22 {W : World} {g o : Nat} {a : Option Addr} {n c : Nat} (h0 : W.cell? ⟨g, o, none⟩ = some (.slice a n c)) : (Instr.loadAt 22 (.pointer (some ⟨g, o, none⟩))).run Tryd.prog W = .ok (.slice a n c) W := by
  go_simp
end Go.Proofs.YtgnnpfainoppeaaDoor

set_option linter.unusedVariables false
set_option linter.unusedSimpArgs false
set_option maxRecDepth 100000
namespace Go.Proofs.YtgnnpfainoppeaaDoor
open Go.RowKit
open Ve (zs zs_len vw va RightP)
theorem ldS38 {W : World} {g o : Nat} {a b : Int} (h0 : W.cell? ⟨g, o, none⟩ = some (.int .i64 a)) (h1 : W.cell? ⟨g, o + 1, none⟩ = some (.int .i64 b)) : (Instr.loadAt 38 (.pointer (some ⟨g, o, none⟩))).run Tryd.prog W = .ok (.agg #[.int .i64 a, .int .i64 b]) W := by
  go_simp
theorem tr_flat64 {bs : List Int} {L : Nat → List O} {m : Nat} (g : Gd bs L m) (v : List Int) (ft fr : Int) : (flat L).foldl (trS v ft fr) ⟨bs, [], 0⟩ = ⟨trB v ft fr L bs 64, flat (trL v ft fr L), trN v ft fr L 64⟩ := by
  have h := tr_flat g v ft fr 64 (Nat.le_refl _)
  unfold flat
  exact h
theorem rtrim_go {bs : List Int} {L : Nat → List O} {m : Nat} (g : Gd bs L m) (hm : m ≤ 500) (W : World) {v : Value} (hv : OLies W v (flat L)) (vv : List Int) (hvv : vv.length = 64) (ft fr : Int) (u : Value) :
    Calls Tryd.prog 14 #[.agg (rva bs v), .agg (va vv), .agg #[.int .i64 ft, .int .i64 fr]] W fun e w' => ∃ v5, e = .returned (.tuple #[.agg (rva (trB vv ft fr L bs 64) v5), .int .i64 (trN vv ft fr L 64)]) ∧ ((v5 = u ∧ False) ∨ w'.ownsRow W.heap.size 40 9 v5 (flat (trL vv ft fr L)).length (cs9 (flat (trL vv ft fr L)))) ∧ Below W.heap.size W w' := by
  have h := rtrim_any W bs g.small v (flat L) hv (by have := flat_le g; omega) g.qr vv hvv ft fr
  rw [tr_flat64 g vv ft fr] at h
  dsimp only at h
  obtain ⟨bt, hbt⟩ : ∃ z, trB vv ft fr L bs 64 = z := ⟨_, rfl⟩
  obtain ⟨lt, hlt⟩ : ∃ z, flat (trL vv ft fr L) = z := ⟨_, rfl⟩
  obtain ⟨nt, hnt⟩ : ∃ z, trN vv ft fr L 64 = z := ⟨_, rfl⟩
  rw [hbt, hlt, hnt] at h ⊢
  refine h.mono ?_
  rintro e w' ⟨v5, rfl, h1, h2⟩
  exact ⟨v5, rfl, .inr h1, h2⟩
theorem eq40 (o : O) (W : World) : (binOp .eql 40 (oV o) (oV o)).run Tryd.prog W = .ok (.bool true) W := by
  unfold oV oCells
  go_simp
theorem egt40 : (Tryd.prog.eqGuardType Tryd.prog.depth 40) = false := by kernel_rfl
theorem wpList_eq40 {w : World} {ops : Array Oper} {rest : List Oper} {o : Oper} {a : Act} {Q : Exit → Act → World → Prop} (hgd : o.guard = none) (x y : Operand)
    (ho : o.op = .binOp .eql 40 x y 40) (q : O) (hx : a.eval x = oV q) (hy : a.eval y = oV q) (h : wpList Tryd.prog ops Q rest (a.put o.dst (.bool true)) w) : wpList Tryd.prog ops Q (o :: rest) a w :=
  wpList_plain hgd fun _ hK => by
    unfold Oper.wp execOp
    have e1 : (eqGuard .eql 40 x y (oV q) (oV q)).run Tryd.prog w = .ok () w := by unfold oV; exact run_eqGuard_agg w .eql 40 x y _ _ egt40
    simp only [ho, hx, hy, e1, eq40, Sem.run_bind, Sem.run_pure, Result.andThen_ok]
    exact hK _ _ h
theorem box40 (W : World) (o : O) : (Instr.alloc 40 true (.tuple #[])).run Tryd.prog W = .ok (pvo W.heap.size 0) (W.alloc (.cells (oCells O0) 40)) ∧
    ∃ W2, (Instr.storeAt 40 (pvo W.heap.size 0) (oV o)).run Tryd.prog (W.alloc (.cells (oCells O0) 40)) = .ok () W2 ∧ Below W.heap.size W W2 ∧ W2.heap[W.heap.size]? = some (.cells (oCells o) 40 (0, 0)) :=
  ⟨alloc40 W, _, store_o _ _ O0 o (heap_alloc_new W _), Ve.below_setRow (vstep W _) (Nat.le_refl _) _, setRow_heap _ _ _ _ _ _ (heap_alloc_new W _)⟩
theorem ldBox {W : World} {k : Nat} {o : O} (h : W.heap[k]? = some (.cells (oCells o) 40 (0, 0))) : (Instr.loadAt 40 (pvo k 0)).run Tryd.prog W = .ok (oV o) W :=
  ldO (fun i u hu => by rw [Nat.zero_add, cell_of_row _ _ _ _ _ _ h]; simpa [oc, oCells] using hu)
end Go.Proofs.YtgnnpfainoppeaaDoor
