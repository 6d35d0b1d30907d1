/- Quote(" "): an append in a region that draws its order, onto a row that the call owns. -/
import Derived.Test.YtiolkopmoailmaaDoorBytes
import Derived.Deep.RegionLaw
set_option linter.unusedVariables false
namespace Go.Proofs.YtiolkopmoailmaaDoor
open Go.RowKit

theorem step_append_own {P : Program} {ops : Array Oper} {o : Oper} {a : Act} {w : World} {K : Act → World → Prop} {Q : Exit → Act → World → Prop} {E : Prop}
    (hg : o.guard = none) (s x : Operand) (t tx : TypeId) (hop : o.op = Op.call { callee := Callee.builtin Builtin.append, args := #[s, x], argTypes := #[t, tx] })
    (base : Nat) (e : TypeId) (i : TypeInfo) (z : Value) (size bytes : Nat) (ht : P.underlying t = some (.slice e)) (hi : P.info? e = some i) (hz : i.zero = some z)
    (hsize : i.size = size) (hby : i.bytes = bytes) (hzs : z.cells.size = size) (hsz : 0 < size)
    (v : Value) (n : Nat) (xs : List Value) (hs : a.eval s = v) (hown : w.ownsRow base e size v n xs) (xv : Value) (m : Nat) (news : List Value) (hx : a.eval x = xv) (hsrc : Src P size tx xv m news w)
    (h63 : n + m ≤ maxLen) (hbytes : (n + m) * bytes ≤ 140737488355328) (hbase : base ≤ w.heap.size)
    (h : ∀ v' w', w'.ownsRow base e size v' (n + m) (xs ++ news) → w.grownBy w' v.ownBlock → Sprung w v v' → K (a.put o.dst v') w') :
    if Region.wanted o (yielded ops a.tmps) = true then Oper.wp P o a w K Q else E := by
  have hw : Region.wanted o (yielded ops a.tmps) = true := by simp [Region.wanted, hg]
  rw [if_pos hw]
  obtain ⟨v', w', hr, h2, h3, h4⟩ := run_append_src_own (P := P) w base t tx o.type e i z size bytes ht hi hz hsize hby hzs hsz v n xs hown xv m news hsrc h63 hbytes hbase
  unfold Oper.wp
  simp only [execOp, hop, resolve, invoke, builtin, Sem.run_bind, Sem.run_pure, Result.andThen_ok, List.map_toArray, List.map_cons, List.map_nil, hs, hx, hr]
  exact h _ _ h2 h3 h4

theorem src_three {P : Program} {t e : TypeId} (hk : P.underlying t = some (.slice e)) (w : World) (x y z : Int) (T : TypeId) : Src P 1 t (.slice (some ⟨w.heap.size, 0, none⟩) 3 3) 3 (u8s [x, y, z]) (w.alloc (.cells #[.int .u8 x, .int .u8 y, .int .u8 z] T)).drew := by
  refine Src.ofSlice _ hk _ _ _ _ rfl ?_ (u8s_one _)
  intro j u hj
  have hb := heap_alloc_new w (.cells #[.int .u8 x, .int .u8 y, .int .u8 z] T)
  match j, hj with
  | 0, hj => have e : u = .int .u8 x := by simpa [u8s] using hj.symm
             subst e; show World.cell? (w.alloc (.cells #[.int .u8 x, .int .u8 y, .int .u8 z] T)) ⟨w.heap.size, 0, none⟩ = _; rw [cell_of_row _ _ _ _ _ _ hb]; rfl
  | 1, hj => have e : u = .int .u8 y := by simpa [u8s] using hj.symm
             subst e; show World.cell? (w.alloc (.cells #[.int .u8 x, .int .u8 y, .int .u8 z] T)) ⟨w.heap.size, 1, none⟩ = _; rw [cell_of_row _ _ _ _ _ _ hb]; rfl
  | 2, hj => have e : u = .int .u8 z := by simpa [u8s] using hj.symm
             subst e; show World.cell? (w.alloc (.cells #[.int .u8 x, .int .u8 y, .int .u8 z] T)) ⟨w.heap.size, 2, none⟩ = _; rw [cell_of_row _ _ _ _ _ _ hb]; rfl
  | j + 3, hj => simp [u8s] at hj

theorem own_drew {w : World} {B e size n : Nat} {v : Value} {xs : List Value} (h : w.ownsRow B e size v n xs) : w.drew.ownsRow B e size v n xs := h

theorem row_three {w wr w1 : World} {v v1 : Value} {cs : List Int} {x y z : Int} {T : TypeId} (hE : Below w.heap.size w wr) (hW : wr.ownsRow w.heap.size 5 1 v cs.length (u8s cs)) (hown : w1.ownsRow w.heap.size 5 1 v1 (cs.length + 3) (u8s cs ++ u8s [x, y, z]))
    (hgr : (wr.alloc (.cells #[.int .u8 x, .int .u8 y, .int .u8 z] T)).drew.grownBy w1 v.ownBlock) : w1.ownsRow w.heap.size 5 1 v1 (cs ++ [x, y, z]).length (u8s (cs ++ [x, y, z])) ∧ Below w.heap.size w w1 := by
  refine ⟨by rw [u8s_append, List.length_append]; exact hown, ?_⟩
  exact ((hE.alloc hE.size _).trans ⟨rfl, rfl, rfl, Nat.le_refl _, fun _ _ => rfl⟩ : Below w.heap.size w (wr.alloc (.cells #[.int .u8 x, .int .u8 y, .int .u8 z] T)).drew).grown hgr (by have := hE.size; simp; omega) (fun k hk => (hW.lt k hk).1)

theorem soq : strOfNums [37, 50, 48] = ⟨#[37, 50, 48]⟩ := by kernel_rfl

set_option maxRecDepth 100000 in
set_option maxHeartbeats 1600000 in
theorem quote_awake (w : World) : Calls Tryd.prog 19 #[.string ⟨#[32]⟩] w fun e w' => e = .returned (.string ⟨#[37, 50, 48]⟩) ∧ Below w.heap.size w w' := by
  obtain ⟨i0, hi, hz0, hz1, hz2⟩ := info_parts Tryd.info5
  have P := Lib.hid (fun W => plain_any W ((ByteArray.mk #[32])[0]'(by decide)).toNat)
  have hp : plainB ((ByteArray.mk #[32])[0]'(by decide)).toNat = false := by kernel_rfl
  rw [hp] at P
  have b0 : (((ByteArray.mk #[32])[0]'(by decide)).toNat : Int) = 32 := by kernel_rfl
  have w2 : IntKind.u8.wrap 2 = 2 := by kernel_rfl
  have d2 : (((ByteArray.mk #[48, 49, 50, 51, 52, 53, 54, 55, 56, 57, 65, 66, 67, 68, 69, 70])[2]'(by decide)).toNat : Int) = 50 := by kernel_rfl
  have d0 : (((ByteArray.mk #[48, 49, 50, 51, 52, 53, 54, 55, 56, 57, 65, 66, 67, 68, 69, 70])[0]'(by decide)).toNat : Int) = 48 := by kernel_rfl
  clear hp
  go_enter Tryd.func19, Tryd.ntmps19
  go_wp2
  go_loopw [3, 8] (fun bv av wr => ∃ (k : Int) (cs : List Int), av = .int .i64 k ∧ (k = 0 ∧ cs = [] ∨ k = 1 ∧ cs = [37, 50, 48]) ∧ wr.ownsRow w.heap.size 5 1 bv cs.length (u8s cs) ∧ Below w.heap.size w wr) (fun _ av _ => 3 - (intOf av).toNat)
  case atStart => exact ⟨0, [], rfl, .inl ⟨rfl, rfl⟩, World.ownsRow_nil _ _ _ _, Below.refl _ _⟩
  case round =>
    obtain ⟨k, cs, rfl, hk, hW, hE⟩ := hrel
    have HW := Lib.hid hW
    have HE := Lib.hid hE
    have hB2 := hE.size
    rcases hk with ⟨rfl, hcs⟩ | ⟨rfl, hcs⟩
    · have hl : cs.length ≤ 3 := by rw [hcs]; decide
      have HC := Lib.hid hcs
      obtain ⟨ao, cp, rfl⟩ := own_shape hW
      clear hW hE hcs
      go_wp2_with fail
      refine (P.out _).mono ?_
      rintro e w1 ⟨rfl, rfl⟩
      go_wp2
      go_region_law (refine step_append_own rfl (.tmp 20) (.tmp 27) 42 42 rfl w.heap.size 5 i0 (.int .u8 0) 1 1 Tryd.underlying42 hi hz0 hz1 hz2 rfl (by decide) _ _ _ rfl (own_drew (HW.out.alloc _)) _ 3 _ rfl (src_three Tryd.underlying42 _ _ _ _ 5) (by unfold maxLen; omega) (by omega) (by simp; omega) ?_; intro v3 w3 hown hgr hspr; have K := Lib.hid (row_three HE.out HW.out hown hgr); clear hown hgr hspr)
      all_goals
        go_wp2
        go_roundw
        case rel => exact ⟨1, [37, 50, 48], rfl, .inr ⟨rfl, rfl⟩, by have := K.out.1; rw [HC.out] at this; exact this, K.out.2⟩
        case measure => simp [intOf]
    · have cv := conv_own hW
      have cs32 : strOfNums cs = ⟨#[37, 50, 48]⟩ := by rw [hcs]; exact soq
      rw [cs32] at cv
      obtain ⟨ao, cp, rfl⟩ := own_shape hW
      clear hW hE hcs cs32
      go_wp2
      go_returns
      exact ⟨rfl, HE.out⟩
end Go.Proofs.YtiolkopmoailmaaDoor
