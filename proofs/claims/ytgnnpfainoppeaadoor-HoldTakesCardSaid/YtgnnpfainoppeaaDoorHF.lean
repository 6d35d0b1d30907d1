/- hold.New, Base. -/
import Derived.Test.YtgnnpfainoppeaaDoorHE
import Derived.Laws.Tables
set_option linter.unusedVariables false
set_option linter.unusedSimpArgs false
set_option maxRecDepth 100000
namespace Go.Proofs.YtgnnpfainoppeaaDoor
open Go.RowKit
open Ve

theorem fold_set (off : Nat) : ∀ (l : List Value) (k : Nat) (cs : List Value), off + k + l.length ≤ cs.length →
    (l.zipIdx k).foldl (fun (c : Array Value) (p : Value × Nat) => c.setIfInBounds (off + p.2) p.1) cs.toArray = (cs.take (off + k) ++ l ++ cs.drop (off + k + l.length)).toArray
  | [], k, cs, h => by simp
  | x :: r, k, cs, h => by
    simp only [List.length_cons] at h
    rw [List.zipIdx_cons, List.foldl_cons, List.setIfInBounds_toArray, fold_set off r (k + 1) _ (by rw [List.length_set]; omega)]
    congr 1
    have e : off + (k + 1) = off + k + 1 := by omega
    have h1 : (cs.set (off + k) x).take (off + k + 1) = cs.take (off + k) ++ [x] := by
      rw [List.take_set, List.take_succ_eq_append_getElem (by omega)]
      rw [List.set_append_right _ _ (by rw [List.length_take]; omega)]
      simp [List.length_take, show min (off + k) cs.length = off + k by omega]
    have h2 : (cs.set (off + k) x).drop (off + k + 1 + r.length) = cs.drop (off + k + 1 + r.length) := List.drop_set_of_lt (by omega)
    rw [e, h1, h2, List.length_cons, show off + k + (r.length + 1) = off + k + 1 + r.length by omega]
    simp
theorem fill_one (place : Nat → Option (Nat × Nat)) (cs : List Value) (i off : Nat) (v : Value) (l : List Value) (rest : List (Nat × Value)) (hv : v.cells = l.toArray) (hp : place i = some (off, l.length)) (hfit : off + l.length ≤ cs.length) :
    Instr.fill place cs.toArray ((i, v) :: rest) = Instr.fill place (cs.take off ++ l ++ cs.drop (off + l.length)).toArray rest := by
  have h := fold_set off l 0 cs (by omega)
  rw [Instr.fill]
  simp only [hp, hv, List.size_toArray]
  rw [if_neg (by simp; omega)]
  congr 1
  simpa using h
def nilS : Nat → Value := fun _ => .slice none 0 0
def hs0 (md : Bool) (l : List Int) : HS := ⟨md, l, nilS, fun _ => []⟩
theorem zero66 : (Tryd.prog.info? 66).map (fun i => i.zero) = some (some (.agg (hca (hs0 false zs)))) := by kernel_rfl
theorem built_struct {t : TypeId} {parts : List (Nat × Value)} {zc : Array Value} {pl : List (Nat × Nat)} (hz : (Tryd.prog.info? t).map (fun i => i.zero) = some (some (.agg zc)))
    (hp : (match Tryd.prog.underlying t with | some (.struct fs) => fs.toList.mapM (fun f => (Tryd.prog.info? f.type).map fun i => (f.offset, i.size)) | _ => none) = some pl) :
    Tryd.prog.built t parts = Instr.fill (pl.toArray[·]?) zc parts := by
  unfold Program.built
  cases hit : Tryd.prog.info? t with
  | none => rw [hit] at hz; cases hz
  | some it =>
    rw [hit] at hz
    have hz : it.zero = some (.agg zc) := by simpa using hz
    cases hu : Tryd.prog.underlying t with
    | none => rw [hu] at hp; cases hp
    | some d =>
      rw [hu] at hp
      cases d <;> first | (cases hp; done) | skip
      case struct fs =>
        simp only at hp
        simp only [hz, hp]
        rfl
theorem pl66 : (match Tryd.prog.underlying 66 with | some (.struct fs) => fs.toList.mapM (fun f => (Tryd.prog.info? f.type).map fun i => (f.offset, i.size)) | _ => none) = some [(0, 1), (1, 64), (65, 64)] := by kernel_rfl
theorem build66 (W : World) (l : List Int) (hl : l.length = 64) : (Instr.build 66 #[(0, .bool true), (1, .agg (va l))]).run Tryd.prog W = .ok (.agg (hca (hs0 true l))) W := by
  refine run_build W 66 _ _ ?_
  rw [built_struct zero66 pl66]
  have h0 : (hcl (hs0 false zs)).length = 129 := hcl_len _ zs_len
  show Instr.fill _ (hcl (hs0 false zs)).toArray [(0, .bool true), (1, .agg (va l))] = _
  rw [fill_one _ _ 0 0 (.bool true) [.bool true] _ rfl rfl (by rw [h0]; decide)]
  rw [fill_one _ _ 1 1 (.agg (va l)) (l.map (Value.int .i64)) _ rfl (by rw [List.length_map, hl]; rfl) (by rw [List.length_map, hl, List.length_append, List.length_append, List.length_drop, h0]; simp)]
  rw [Instr.fill, List.length_map, hl]
  refine congrArg (fun x : List Value => some x.toArray) ?_
  unfold hcl hs0
  simp only [List.take_zero, List.nil_append, List.singleton_append]
  have hz : (zs.map (Value.int .i64)).length = 64 := by rw [List.length_map, zs_len]
  rw [show 0 + [Value.bool true].length = 1 from rfl, List.drop_succ_cons, List.drop_zero, List.take_succ_cons, List.take_zero, show 1 + 64 = 64 + 1 from rfl, List.drop_succ_cons, List.drop_left' hz]
  simp
theorem wpList_build_2 {P : Program} {w : World} {ops : Array Oper} {rest : List Oper} {o : Oper} {a : Act} {Q : Exit → Act → World → Prop} (hgd : o.guard = none) (ty : TypeId) (i j : Nat) (x y : Operand)
    (ho : o.op = .build ty #[(i, x), (j, y)]) (xv yv : Value) (hx : a.eval x = xv) (hy : a.eval y = yv) (u : Value) (hr : (Instr.build ty #[(i, xv), (j, yv)]).run P w = .ok u w)
    (h : wpList P ops Q rest (a.put o.dst u) w) : wpList P ops Q (o :: rest) a w :=
  wpList_plain hgd fun _ hK => by
    unfold Oper.wp execOp
    simp only [ho, List.map_toArray, List.map_cons, List.map_nil, hx, hy, hr, Sem.run_bind, Sem.run_pure, Result.andThen_ok]
    exact hK _ _ h
theorem wpList_build_1 {P : Program} {w : World} {ops : Array Oper} {rest : List Oper} {o : Oper} {a : Act} {Q : Exit → Act → World → Prop} (hgd : o.guard = none) (ty : TypeId) (i : Nat) (x : Operand)
    (ho : o.op = .build ty #[(i, x)]) (xv : Value) (hx : a.eval x = xv) (u : Value) (hr : (Instr.build ty #[(i, xv)]).run P w = .ok u w)
    (h : wpList P ops Q rest (a.put o.dst u) w) : wpList P ops Q (o :: rest) a w :=
  wpList_plain hgd fun _ hK => by
    unfold Oper.wp execOp
    simp only [ho, List.map_toArray, List.map_cons, List.map_nil, hx, hr, Sem.run_bind, Sem.run_pure, Result.andThen_ok]
    exact hK _ _ h
theorem hk_new {w : World} {B : Nat} {l : List Int} (hl : l.length = 64) (hB : B ≤ w.heap.size) (md : Bool) : HK (w.alloc (.cells (hca (hs0 md l)) 66)) B w.heap.size (hs0 md l) :=
  ⟨heap_alloc_new w _, hB, hl, fun i hi => World.ownsRow_nil _ _ _ _, fun i j _ _ _ k e => by cases e⟩
abbrev pv (b : Nat) : Value := .pointer (some ⟨b, 0, none⟩)
set_option maxHeartbeats 1600000 in
theorem new_ok (w : World) (l : List Int) (hl : l.length = 64) (hr : RightP l) : Calls Tryd.prog 10 #[vw l] w fun e w' => ∃ b, e = .returned (.tuple #[pv b, .int .i64 0]) ∧ HK w' w.heap.size b (hs0 true l) ∧ Below w.heap.size w w' := by
  have X := Lib.hid ((Below.refl w.heap.size w).alloc (Nat.le_refl _) (.cells (va l) 27))
  have RW := Lib.hid (heap_alloc_new w (.cells (va l) 27))
  have R := Lib.hid (fun W => Ve.right_any W l hl true ⟨fun _ => hr, fun _ => rfl⟩)
  have LD := Lib.hid (fun W (h : W.heap[w.heap.size]? = some (.cells (va l) 27 (0, 0))) => load_va v24 W w.heap.size l hl h)
  have BD := Lib.hid (fun W => build66 W l hl)
  have SZ := Lib.hid (show (w.alloc (.cells (va l) 27)).heap.size = w.heap.size + 1 by simp)
  have L0 := Lib.hid (LD.out _ RW.out)
  have NEW := Lib.hid (fun (W : World) (h : w.heap.size ≤ W.heap.size) => hk_new (w := W) (B := w.heap.size) (l := l) hl h true)
  have HU := Lib.hid (show vw l = .agg (va l) from rfl)
  rw [HU.out] at R ⊢
  clear hr hl HU
  generalize hA : hca (hs0 true l) = A at *
  clear hA
  generalize va l = V at *
  go_enter Tryd.func10, Tryd.ntmps10
  go_wp2_with (first | refine wpList_load_arr rfl (.tmp 1) 27 rfl _ _ rfl L0.out ?_)
  refine (R.out _).mono ?_
  rintro e w1 ⟨rfl, h1⟩
  have X1 := Lib.hid (X.out.trans (h1.mono (by rw [SZ.out]; omega)))
  have L1 := Lib.hid (LD.out w1 ((h1.block w.heap.size (by rw [SZ.out]; omega)).trans RW.out))
  have N1 := Lib.hid (NEW.out w1 X1.out.size)
  have X2 := Lib.hid (X1.out.alloc X1.out.size (.cells A 66))
  clear h1
  go_wp2_with (first | refine wpList_load_arr rfl (.tmp 1) 27 rfl _ _ rfl L1.out ?_ | refine wpList_build_2 rfl 66 0 1 (.const (.bool true)) (.tmp 7) rfl (.bool true) (.agg V) rfl rfl _ (BD.out _) ?_)
  go_returns
  exact ⟨_, rfl, N1.out, X2.out⟩
set_option maxHeartbeats 1600000 in
theorem new_bad (w : World) (l : List Int) (hl : l.length = 64) (hr : ¬ RightP l) : Calls Tryd.prog 10 #[vw l] w fun e w' => e = .returned (.tuple #[.pointer none, .int .i64 2]) ∧ Below w.heap.size w w' := by
  have X := Lib.hid ((Below.refl w.heap.size w).alloc (Nat.le_refl _) (.cells (va l) 27))
  have RW := Lib.hid (heap_alloc_new w (.cells (va l) 27))
  have R := Lib.hid (fun W => Ve.right_any W l hl false ⟨fun h => (by cases h), fun h => absurd h hr⟩)
  have L0 := Lib.hid (load_va v24 (w.alloc (.cells (va l) 27)) w.heap.size l hl RW.out)
  have SZ := Lib.hid (show (w.alloc (.cells (va l) 27)).heap.size = w.heap.size + 1 by simp)
  have HU := Lib.hid (show vw l = .agg (va l) from rfl)
  rw [HU.out] at R ⊢
  clear hr hl HU
  generalize va l = V at *
  go_enter Tryd.func10, Tryd.ntmps10
  go_wp2_with (first | refine wpList_load_arr rfl (.tmp 1) 27 rfl _ _ rfl L0.out ?_)
  refine (R.out _).mono ?_
  rintro e w1 ⟨rfl, h1⟩
  have X1 := Lib.hid (X.out.trans (h1.mono (by rw [SZ.out]; omega)))
  clear h1
  go_wp2
  go_returns
  exact ⟨rfl, X1.out⟩
set_option maxHeartbeats 1600000 in
theorem base_any (w : World) (B b : Nat) (s : HS) (h : HK w B b s) : Calls Tryd.prog 26 #[pv b] w fun e w' => e = .returned (vw s.bs) ∧ Below w.heap.size w w' := by
  have AZ := Lib.hid (alloc_va z24 w)
  have X := Lib.hid ((Below.refl w.heap.size w).alloc (Nat.le_refl _) (.cells (va zs) 27))
  have RW := Lib.hid (heap_alloc_new w (.cells (va zs) 27))
  have LB := Lib.hid (h.step X.out).loadB
  have ST := Lib.hid (store_va v24 (w.alloc (.cells (va zs) 27)) w.heap.size (va zs) (by rw [va_size, zs_len]) s.bs h.len RW.out)
  have HL := Lib.hid h.len
  have HU := Lib.hid (show vw s.bs = .agg (va s.bs) from rfl)
  generalize hW : w.alloc (.cells (va zs) 27) = W0 at *
  clear hW h
  go_enter Tryd.func26, Tryd.ntmps26
  go_wp2_with (first | refine wpList_alloc_arr rfl 27 rfl _ _ AZ.out ?_ | refine wpList_load_arr rfl (.tmp 8) 27 rfl _ _ rfl LB.out ?_ | refine wpList_store_arr rfl (.tmp 2) (.tmp 9) 27 rfl _ _ rfl rfl _ ST.out ?_ |
    refine bodyPost_ret (ret_va (b := w.heap.size) rfl v24 HL.out rfl (setRow_heap _ _ _ _ _ _ RW.out)) rfl ⟨rfl, below_setRow X.out (Nat.le_refl _) _⟩)
end Go.Proofs.YtgnnpfainoppeaaDoor
