/- maps.DeleteFunc with Ready's question. -/
import Derived.Test.YtgnnpfainoppeaaGC
import Derived.Test.YtgnnpfainoppeaaLater
set_option linter.unusedVariables false
set_option linter.unusedSimpArgs false
set_option maxRecDepth 100000
namespace Go.Proofs.Ytgnnpfainoppeaa
open Go.RowKit Go.WideMaps Go.Maps Go.WideShapes Go.ChangeMaps
open Ve (zs zs_len vw va)

/-- How much is known. -/
def knw (vv : List Int) (r : Int) : Int := vv.getD r.toNat 0
theorem knw_at {vv : List Int} (hv : vv.length = 64) {r : Int} (hr : 0 ≤ r ∧ r < 64) : ∃ i : Nat, r = (i : Int) ∧ i < 64 ∧ vv[i]? = some (knw vv r) := by
  refine ⟨r.toNat, by omega, by omega, ?_⟩
  unfold knw
  have : r.toNat < vv.length := by omega
  rw [List.getD_eq_getElem?_getD, List.getElem?_eq_getElem this]
  rfl
set_option maxHeartbeats 1600000 in
theorem quest_any (w : World) (kv : Nat) (vv : List Int) (hv : vv.length = 64) (h : w.heap[kv]? = some (.cells (va vv) 29 (0, 0))) (x : O) (hr : 0 ≤ x.r ∧ x.r < 64) :
    Calls Try.prog 28 #[sv x.r x.q, oV x, pv kv] w fun e w' => e = .returned (.bool (decide (x.q ≤ knw vv x.r))) ∧ Below w.heap.size w w' := by
  obtain ⟨i, hi, hi64, hx⟩ := knw_at hv hr
  have B1 := vstep w (.cells #[.int .i64 x.r, .int .i64 x.q] 72)
  have B2 := vstep (w.alloc (.cells #[.int .i64 x.r, .int .i64 x.q] 72)) (.cells (oCells x) 35)
  have N1 := heap_alloc_new w (.cells #[.int .i64 x.r, .int .i64 x.q] 72)
  have N2 := (B2.block _ (lt_of_block N1)).trans N1
  have BB := Lib.hid (B1.trans (B2.mono B1.size))
  have C1 := (cell_of_row _ _ 0 _ _ _ N2).trans (show (#[Value.int .i64 x.r, .int .i64 x.q])[0]? = some (.int .i64 x.r) from rfl)
  have C2 := (cell_of_row _ _ 1 _ _ _ N2).trans (show (#[Value.int .i64 x.r, .int .i64 x.q])[1]? = some (.int .i64 x.q) from rfl)
  have C3 := Ve.cell_va ((BB.out.block _ (lt_of_block h)).trans h) hx
  obtain ⟨k, hk⟩ : ∃ k, knw vv x.r = k := ⟨_, rfl⟩
  rw [hk] at C3 ⊢
  obtain ⟨XV, hXV⟩ : ∃ z, oV x = z := ⟨_, rfl⟩
  have hi0 : (0 : Int) ≤ (i : Int) := by omega
  have hi1 : (i : Int) < 64 := by omega
  obtain ⟨w0, hw0⟩ : ∃ z, (w.alloc (.cells #[.int .i64 x.r, .int .i64 x.q] 72)).alloc (.cells (oCells x) 35) = z := ⟨_, rfl⟩
  rw [hw0] at C1 C2 C3 BB
  rw [hi] at C1
  have HW := Lib.hid hw0
  have BD := Lib.hid (fun q => BB.out.trans ((below_drewN w0 q).mono BB.out.size))
  have HI := Lib.hid hi
  clear hw0 N1 N2 B1 B2 h hx hXV hv hr hi
  unfold oV
  go_enter Try.func28, Try.ntmps28
  go_upto_region 1 with (fail)
  rw [HW.out]
  go_quiet (fail)
  have FIN := Lib.hid (BD.out nq)
  go_wp2
  go_returns
  exact ⟨rfl, FIN.out⟩
theorem below_grown {w w' : World} (hb : Below w.heap.size w w') (row : Option Nat) : w.grownBy w' row := ⟨hb.os, hb.tape, hb.output, hb.size, fun k hk _ => hb.block k hk⟩
theorem eg28 : ∀ args w, (callFunc 28 args).run Try.prog w = .ok (.enter 28 args) w := enters_of Try.func28 (by kernel_rfl) rfl
/-- DeleteFunc between two rounds. -/
structure DI (w wr : World) (b r : Nat) (l cur todo : List O) (vv : List Int) : Prop where
  tx : TX wr b r cur todo
  grow : w.grownBy wr (some b)
  rw : w.heap.size ≤ r
  is : ∀ x, x ∈ cur ↔ x ∈ l ∧ (x ∈ todo ∨ knw vv x.r < x.q)
  sub : ∀ x ∈ todo, x ∈ l
set_option maxHeartbeats 3200000 in
theorem deleteFunc_any (w : World) (b kv : Nat) (l : List O) (h : TM w b l) (hr : ∀ x ∈ l, 0 ≤ x.r ∧ x.r < 64) (vv : List Int) (hv : vv.length = 64) (hk : w.heap[kv]? = some (.cells (va vv) 29 (0, 0))) :
    Calls Try.prog 27 #[.map (some b), .func (.func 28) #[] #[pv kv]] w fun e w' => e = .returned (.tuple #[]) ∧ TM w' b (fresh (knw vv) l) ∧ w.grownBy w' (some b) := by
  have T1 := Lib.hid h
  have RS := Lib.hid h.rise
  have HB := Lib.hid h.lt
  have HR := Lib.hid hr
  have HV := Lib.hid hv
  have HK := Lib.hid hk
  have HKL := Lib.hid (lt_of_block hk)
  have KB := Lib.hid (show kv ≠ b from fun e => by
    obtain ⟨es, h1, _⟩ := h
    obtain ⟨es', c, hb, _⟩ := h1
    rw [← e, hk] at hb
    cases hb)
  have EG := Lib.hid eg28
  clear h hr hv hk
  go_enter Try.func27, Try.ntmps27
  go_wp2_with (at_range; refine wpList_xrange rfl _ rfl b l rfl T1.out ?_; intro w2 hr hg hs; have R2 := Lib.hid hr; have G2 := Lib.hid hg; clear hr hg hs)
  have K0 := Lib.hid (show DI w w2 b w.heap.size l l l vv from ⟨R2.out, ⟨G2.out.os, G2.out.tape, G2.out.output, G2.out.size, fun k hk _ => G2.out.block k hk (by simp)⟩, Nat.le_refl _, fun x => ⟨fun h => ⟨h, .inl h⟩, fun h => h.1⟩, fun x h => h⟩)
  clear R2 G2 T1
  go_frame
  go_loopw [] (fun wr => ∃ cur todo, Hid (DI w wr b w.heap.size l cur todo vv)) (fun wr => wr.rangeLeft b w.heap.size)
  case atStart => exact ⟨l, l, K0⟩
  case round =>
    obtain ⟨cur, todo, hK⟩ := hrel
    have KH := Lib.hid hK.out
    clear hK K0
    go_wp2_with (at_next; refine wpList_xnext rfl _ rfl b w.heap.size cur todo rfl KH.out.tx ?_ ?_)
    · intro hall
      have FIN := Lib.hid (show TM wr b (fresh (knw vv) l) ∧ w.grownBy wr (some b) from ⟨by
        have ht := KH.out.tx.tm
        have e : cur = fresh (knw vv) l := rise_ext ht.rise (RS.out.filter _) (fun x => by
          rw [KH.out.is x, hall]
          unfold fresh
          rw [List.mem_filter]
          simp)
        rwa [e] at ht, KH.out.grow⟩)
      clear hall
      go_wp2
      go_returns
      exact ⟨rfl, FIN.out⟩
    · intro x w3 hx hc hr hlt hg hs hen
      have R3 := Lib.hid hr
      have LT := Lib.hid hlt
      have G3 := Lib.hid hg
      have HX := Lib.hid (And.intro hx hc)
      clear hr hlt hg hs hx hc
      have B4 := vstep w3 (.cells #[.int .i64 x.r, .int .i64 x.q] 72)
      have N4 := heap_alloc_new w3 (.cells #[.int .i64 x.r, .int .i64 x.q] 72)
      have s4 : (w3.alloc (.cells #[.int .i64 x.r, .int .i64 x.q] 72)).heap.size = w3.heap.size + 1 := by simp
      obtain ⟨a5, w5, st5, b5, r5⟩ := box40 (w3.alloc (.cells #[.int .i64 x.r, .int .i64 x.q] 72)) x
      rw [s4] at st5 r5
      have N5 := (b5.block _ (by omega)).trans N4
      have S5 := Lib.hid st5
      have B5 := Lib.hid (B4.trans (b5.mono B4.size))
      have R5 := Lib.hid r5
      have NN := Lib.hid N5
      clear st5 B4 N4 s4 a5 b5 r5 N5
      go_upto_region 3 with (first | (refine Ve.wpList_store_arr rfl (.tmp 5) (.tmp 12) 35 rfl (pvo (w3.heap.size + 1) 0) (oV x) rfl rfl _ S5.out ?_; simp only [Act.put, List.setIfInBounds_toArray, List.set_cons_zero, List.set_cons_succ]))
      clear hen S5
      have R6 := Lib.hid (R3.out.step B5.out)
      have G5 := Lib.hid ((KH.out.grow.andThen G3.out (fun j e => .inl (by injection e with e; subst e; exact Nat.le_refl _))).andThen (below_grown B5.out none) (fun j e => by cases e))
      have HK5 := Lib.hid ((G5.out.block kv HKL.out (fun e => KB.out (by injection e))).trans HK.out)
      have Q5 := Lib.hid (quest_any w5 kv vv HV.out HK5.out x (HR.out x (KH.out.sub x HX.out.1)))
      have L5 := Lib.hid (ldBox R5.out)
      have c0 := (cell_of_row _ _ 0 _ _ _ NN.out).trans (show (#[Value.int .i64 x.r, .int .i64 x.q])[0]? = some (.int .i64 x.r) from rfl)
      have c1 := (cell_of_row _ _ 1 _ _ _ NN.out).trans (show (#[Value.int .i64 x.r, .int .i64 x.q])[1]? = some (.int .i64 x.q) from rfl)
      go_wp2_with (first | (refine wpList_ld rfl (.tmp 5) 35 rfl (pvo (w3.heap.size + 1) 0) (oV x) rfl L5.out ?_; simp only [Act.put, List.setIfInBounds_toArray, List.set_cons_zero, List.set_cons_succ]))
      refine Q5.out.mono ?_
      rintro e w6 ⟨rfl, hb6⟩
      have R7 := Lib.hid (R6.out.1.step hb6)
      have G7 := Lib.hid (G5.out.andThen (below_grown hb6 none) (fun j e => by cases e))
      have N7 := (hb6.block _ (lt_of_block NN.out)).trans NN.out
      have e0 := (cell_of_row _ _ 0 _ _ _ N7).trans (show (#[Value.int .i64 x.r, .int .i64 x.q])[0]? = some (.int .i64 x.r) from rfl)
      have e1 := (cell_of_row _ _ 1 _ _ _ N7).trans (show (#[Value.int .i64 x.r, .int .i64 x.q])[1]? = some (.int .i64 x.q) from rfl)
      have NX := Lib.hid (show x ∉ dropG todo x.r x.q from fun h => by
        have := (List.mem_filter.1 h).2
        unfold isG at this
        simp at this)
      have LT7 := Lib.hid (show w6.rangeLeft b w.heap.size < wr.rangeLeft b w.heap.size from by rw [R7.out.2, R6.out.2]; exact LT.out)
      have ONE := Lib.hid (fun z (hz : z ∈ l) (h : isG x.r x.q z = true) => rise_one RS.out hz (KH.out.sub x HX.out.1) (show eqG z x = true from by unfold isG at h; unfold eqG; exact h))
      clear hb6 N7 c0 c1 L5 Q5 HK5
      by_cases hq : x.q ≤ knw vv x.r
      · rw [decide_eq_true hq]
        have IS := Lib.hid (show ∀ z, z ∈ dropG cur x.r x.q ↔ z ∈ l ∧ (z ∈ dropG todo x.r x.q ∨ knw vv z.r < z.q) from fun z => by
          unfold dropG
          rw [List.mem_filter, List.mem_filter, KH.out.is z]
          constructor
          · rintro ⟨⟨h1, h2⟩, h3⟩
            exact ⟨h1, h2.imp (fun h => ⟨h, h3⟩) id⟩
          · rintro ⟨h1, h2⟩
            rcases h2 with ⟨h2, h3⟩ | h2
            · exact ⟨⟨h1, .inl h2⟩, h3⟩
            · refine ⟨⟨h1, .inr h2⟩, ?_⟩
              cases hs : isG x.r x.q z with
              | false => rfl
              | true => rw [ONE.out z h1 hs] at h2; omega)
        clear hq
        go_wp2_with (at_delete; refine wpList_xdrop rfl _ _ rfl b w.heap.size cur (dropG todo x.r x.q) x rfl R7.out.1 HX.out.2 NX.out rfl ?_; intro w7 ht hle hg; have R8 := Lib.hid ht; have L8 := Lib.hid hle; have G8 := Lib.hid hg; clear ht hle hg)
        have FIN := Lib.hid (show DI w w7 b w.heap.size l (dropG cur x.r x.q) (dropG todo x.r x.q) vv from ⟨R8.out, G7.out.andThen G8.out (fun j e => .inr e), Nat.le_refl _, IS.out, fun z hz => KH.out.sub z (List.mem_filter.1 hz).1⟩)
        have ML := Lib.hid (Nat.lt_of_le_of_lt L8.out LT7.out)
        clear e0 e1
        go_roundw
        case rel => exact ⟨_, _, _, _, _, _, _, _, _, _, _, _, _, ⟨_, _, FIN⟩, rfl⟩
        case measure => exact ML.out
      · rw [decide_eq_false hq]
        have IS := Lib.hid (show ∀ z, z ∈ cur ↔ z ∈ l ∧ (z ∈ dropG todo x.r x.q ∨ knw vv z.r < z.q) from fun z => by
          unfold dropG
          rw [List.mem_filter, KH.out.is z]
          constructor
          · rintro ⟨h1, h2⟩
            refine ⟨h1, ?_⟩
            rcases h2 with h2 | h2
            · cases hs : isG x.r x.q z with
              | false => exact .inl ⟨h2, rfl⟩
              | true => rw [ONE.out z h1 hs]; exact .inr (by omega)
            · exact .inr h2
          · rintro ⟨h1, h2⟩
            exact ⟨h1, h2.imp (fun h => h.1) id⟩)
        clear hq
        have FIN := Lib.hid (show DI w w6 b w.heap.size l cur (dropG todo x.r x.q) vv from ⟨R7.out.1, G7.out, Nat.le_refl _, IS.out, fun z hz => KH.out.sub z (List.mem_filter.1 hz).1⟩)
        clear e0 e1
        go_wp2
        go_roundw
        case rel => exact ⟨_, _, FIN⟩
        case measure => exact LT7.out
end Go.Proofs.Ytgnnpfainoppeaa
