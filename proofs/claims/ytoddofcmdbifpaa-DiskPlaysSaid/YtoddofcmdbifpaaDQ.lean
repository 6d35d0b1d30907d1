/- The chapter's example. -/
import Derived.Test.YtoddofcmdbifpaaDO
import Derived.Lib.SlBytesConst
set_option linter.unusedVariables false
set_option linter.unusedSimpArgs false
set_option maxRecDepth 100000
namespace Go.Proofs.Ytoddofcmdbifpaa
open Go.RowKit Go.WideMaps Go.Maps

theorem row_liesK {α : Type} {enc : α → List Value} {k : Nat} (hk : ∀ x, (enc x).length = k) {w : World} {g : Nat} {e : TypeId} {l : List α} (hm : l.length ≤ maxLen) (hb : w.heap[g]? = some (.cells (l.flatMap enc).toArray e (0, 0))) : LiesK enc k w (.slice (some ⟨g, 0, none⟩) l.length l.length) l :=
  own_liesK (B := 0) (e := e) hk ⟨flat_len hk l, .inr ⟨g, l.length, (l.flatMap enc).toArray, rfl, Nat.zero_le _, hb, Nat.le_refl _, hm, by simp [flat_len hk], by rw [← flat_len hk, List.take_length]⟩⟩
theorem block_liesK {α : Type} {enc : α → List Value} {k : Nat} (hk : ∀ x, (enc x).length = k) {w : World} {g : Nat} {e : TypeId} {fr : Nat × Nat} {l : List α} (hm : l.length ≤ maxLen) (hb : w.heap[g]? = some (.cells (l.flatMap enc).toArray e fr)) : LiesK enc k w (.slice (some ⟨g, 0, none⟩) l.length l.length) l := by
  refine ⟨_, l.length, rfl, Nat.le_refl _, hm, (fun h => by cases h), fun b hbb _ => ?_⟩
  cases hbb
  refine ⟨g, 0, rfl, lt_of_block hb, fun j p hj i u hi => ?_⟩
  have hik : i < k := by have := (List.getElem?_eq_some_iff.1 hi).1; rwa [hk] at this
  have c := flat_get hk l j i p hj hik
  unfold World.cell?
  simp only [hb]
  rw [Nat.zero_add, List.getElem?_toArray, c]
  exact hi
def nmA : ByteArray := ⟨#[97]⟩
def hello : List Int := [104, 101, 108, 108, 111]
def S0 : DS := ⟨none, 100, [], false, 0, false⟩
def S1 (m : Option Nat) : DS := ⟨m, 100, [zf nmA], false, 0, false⟩
def S2 (m : Option Nat) : DS := ⟨m, 100, [zf nmA], true, 2, false⟩
def S3 (m : Option Nat) (a : Option Addr) (c : Nat) : DS := ⟨m, 100, [⟨nmA, a, c, [104, 101], 0⟩], true, 0, true⟩
def S4 (m : Option Nat) (a : Option Addr) (c : Nat) : DS := ⟨m, 100, [⟨nmA, a, c, [104], 1⟩], false, 0, false⟩
theorem nmA_le : nmA.size ≤ maxLen := by show (1 : Nat) ≤ _; unfold maxLen; omega
theorem get_one (x : Fl) (hx : x.n = nmA) : getF [x] nmA = some x := by simp [getF, isN, hx]
theorem set_one (x y : Fl) (h : y.n = x.n) : setF [x] y = [y] := set_at (l := [x]) (List.pairwise_singleton _ _) (i := 0) rfl h
theorem Out.bel {w w' : World} {B d : Nat} {s t : DS} (h : Out B d s t w w') (hd : DK w B d s) (hB : B ≤ w.heap.size) : Below B w w' := h.far.below hB (fun k q => (hd.base k q).1)
theorem not_has {w : World} {B d : Nat} {s : DS} (h : DK w B d s) (n c : Nat) : ∀ j, (Value.slice (some ⟨w.heap.size, 0, none⟩) n c).ownBlock = some j → ¬ Has d s j := by
  intro j e q
  have := (h.base j q).2
  have : w.heap.size = j := by simpa [Value.ownBlock] using e
  omega
theorem ex_create {w : World} {B d : Nat} (h : DK w B d S0) (hB : B ≤ w.heap.size) : Calls Try.prog 11 #[pv d, .string nmA] w fun e w' => e = .returned (.int .i64 0) ∧ ∃ m, Out B d S0 (S1 m) w w' := by
  refine (create_any w B d S0 h hB nmA nmA_le (by simp [S0])).mono ?_
  rintro e w' ⟨rfl, m', ho⟩
  exact ⟨rfl, m', ho⟩
theorem ex_arm {w : World} {B d : Nat} {m : Option Nat} (h : DK w B d (S1 m)) : Calls Try.prog 18 #[pv d, .int .i64 2] w fun e w' => e = .returned (.tuple #[]) ∧ Out B d (S1 m) (S2 m) w w' :=
  arm_any w B d (S1 m) h 2 ⟨by omega, by omega⟩
theorem fnd_S2 (m : Option Nat) : fnd (S2 m) nmA = 0 := by
  have := get_one (zf nmA) rfl
  unfold fnd S2
  simp [this]
theorem fval_S2 (m : Option Nat) : fval (S2 m) nmA = zf nmA := by
  have := get_one (zf nmA) rfl
  unfold fval S2
  simp [this]
theorem ex_append {w : World} {B d : Nat} {m : Option Nat} (h : DK w B d (S2 m)) (hB : B ≤ w.heap.size) (v : Value) (hv : LiesK encB 1 w v hello) (hvd : ∀ j, v.ownBlock = some j → ¬ Has d (S2 m) j) : Calls Try.prog 13 #[pv d, .string nmA, v] w fun e w' => e = .returned (.int .i64 12) ∧ ∃ a c, Out B d (S2 m) (S3 m a c) w w' := by
  refine (append_go w B d (S2 m) h hB nmA nmA_le (by simp [S2]) v hello hv (fun _ => hvd) (by simp [hello]) (fnd_S2 m) (by simp [S2, usedF, hello])).mono ?_
  rintro e w' ⟨rfl, a', c', ho⟩
  refine ⟨rfl, a', c', ?_⟩
  rw [fval_S2] at ho
  have e1 : ({ aft (S2 m) (hello.length : Int) with l := setF (S2 m).l ⟨nmA, a', c', (zf nmA).b ++ hello.take (tk (S2 m) (hello.length : Int)).toNat, (zf nmA).s⟩ } : DS) = S3 m a' c' := by
    have : setF (S2 m).l ⟨nmA, a', c', (zf nmA).b ++ hello.take (tk (S2 m) (hello.length : Int)).toNat, (zf nmA).s⟩ = [⟨nmA, a', c', [104, 101], 0⟩] := set_one _ _ rfl
    rw [this]
    rfl
  rw [e1] at ho
  exact ho
theorem ex_read3 {w : World} {B d : Nat} {m : Option Nat} {a : Option Addr} {c : Nat} (h : DK w B d (S3 m a c)) (hB : B ≤ w.heap.size) : Calls Try.prog 15 #[pv d, .string nmA] w fun e w' => ∃ v, e = .returned (.tuple #[v, .int .i64 12]) ∧ Below w.heap.size w w' := by
  refine (read_any w B d _ h hB nmA nmA_le (by simp [S3])).mono ?_
  rintro e w' ⟨v, rfl, _, hb⟩
  exact ⟨v, rfl, hb⟩
theorem ex_boot {w : World} {B d : Nat} {m : Option Nat} {a : Option Addr} {c : Nat} (h : DK w B d (S3 m a c)) (kv : Value) (hk : LiesK encN 1 w kv [1]) (hkd : ∀ j, kv.ownBlock = some j → ¬ Has d (S3 m a c) j) : Calls Try.prog 14 #[pv d, kv] w fun e w' => e = .returned (.tuple #[]) ∧ Out B d (S3 m a c) (S4 m a c) w w' :=
  boot_dn w B d (S3 m a c) h (by simp [S3]) kv [1] hk (fun _ => hkd) rfl
theorem fnd_S4 (m : Option Nat) (a : Option Addr) (c : Nat) : fnd (S4 m a c) nmA = 0 ∧ fval (S4 m a c) nmA = ⟨nmA, a, c, [104], 1⟩ := by
  have := get_one ⟨nmA, a, c, [104], 1⟩ rfl
  unfold fnd fval S4
  simp [this]
theorem ex_read4 {w : World} {B d : Nat} {m : Option Nat} {a : Option Addr} {c : Nat} (h : DK w B d (S4 m a c)) (hB : B ≤ w.heap.size) : Calls Try.prog 15 #[pv d, .string nmA] w fun e w' => ∃ g c', e = .returned (.tuple #[.slice (some ⟨g, 0, none⟩) 1 c', .int .i64 0]) ∧ w'.cell? ⟨g, 0, none⟩ = some (.int .u8 104) ∧ Below w.heap.size w w' := by
  refine (read_any w B d _ h hB nmA nmA_le (by simp [S4])).mono ?_
  rintro e w' ⟨v, rfl, ho, hb⟩
  rw [(fnd_S4 m a c).1]
  rw [(fnd_S4 m a c).2] at ho
  rcases ho.2 with ⟨_, h0⟩ | ⟨g, cap, cur, rfl, _⟩
  · cases h0
  · refine ⟨g, cap, rfl, ?_, hb⟩
    have := ho.cells (g := g) rfl 0 (.int .u8 104) rfl
    rw [rk_addr] at this
    exact this
theorem ex_sure {w : World} {B d : Nat} {m : Option Nat} {a : Option Addr} {c : Nat} (h : DK w B d (S4 m a c)) : Calls Try.prog 19 #[pv d, .string nmA] w fun e w' => e = .returned (.int .i64 1) ∧ w = w' := by
  have := sure_any w B d _ h nmA nmA_le
  rw [show getF (S4 m a c).l nmA = some ⟨nmA, a, c, [104], 1⟩ from get_one _ rfl] at this
  exact this
theorem ex_free {w : World} {B d : Nat} {m : Option Nat} {a : Option Addr} {c : Nat} (h : DK w B d (S4 m a c)) : Calls Try.prog 25 #[pv d] w fun e w' => e = .returned (.int .i64 99) ∧ Below w.heap.size w w' :=
  free_any w B d _ h
theorem bs33 (W : World) : (Instr.buildSlice 33 5 #[(0, .int .u8 104), (1, .int .u8 101), (2, .int .u8 108), (3, .int .u8 108), (4, .int .u8 111)]).run Try.prog W = .ok (.slice (some ⟨W.heap.size, 0, none⟩) 5 5) (W.alloc (.cells #[.int .u8 104, .int .u8 101, .int .u8 108, .int .u8 108, .int .u8 111] 5)) := by go_simp
theorem bs34 (W : World) : (Instr.buildSlice 34 1 #[(0, .int .i64 1)]).run Try.prog W = .ok (.slice (some ⟨W.heap.size, 0, none⟩) 1 1) (W.alloc (.cells #[.int .i64 1] 3)) := by go_simp
set_option maxHeartbeats 6400000 in
theorem awake_any (w : World) : Calls Try.prog 8 #[] w fun e w' => e = .returned (.bool true) ∧ Below w.heap.size w w' := by
  have NW := Lib.hid (new_any w 100 ⟨by omega, by omega⟩)
  go_enter Try.func8, Try.ntmps8
  go_wp2_with fail
  refine NW.out.mono ?_
  rintro e w1 ⟨rfl, hdk, hb⟩
  obtain ⟨d, hd⟩ : ∃ d, w.heap.size = d := ⟨_, rfl⟩
  rw [hd] at hdk hb ⊢
  have HD := Lib.hid hd
  have D1 := Lib.hid (show DK w1 d d S0 from hdk)
  have B1 := Lib.hid hb
  have C1 := Lib.hid (ex_create D1.out (Nat.le_of_lt D1.out.dlt))
  clear hdk hb NW hd
  go_wp2_with fail
  refine C1.out.mono ?_
  rintro e w2 ⟨rfl, m, ho⟩
  have D2 := Lib.hid ho.dk
  have B2 := Lib.hid (B1.out.trans (ho.bel D1.out (Nat.le_of_lt D1.out.dlt)))
  have A2 := Lib.hid (ex_arm D2.out)
  clear ho C1 B1 D1
  go_wp2_with fail
  refine A2.out.mono ?_
  rintro e w3 ⟨rfl, ho⟩
  have D3 := Lib.hid ho.dk
  have B3 := Lib.hid (B2.out.trans (ho.bel D2.out (Nat.le_of_lt D2.out.dlt)))
  have V3 := vstep w3 (.cells #[.int .u8 104, .int .u8 101, .int .u8 108, .int .u8 108, .int .u8 111] 5 (5, 6))
  have D3' := Lib.hid (D3.out.step V3)
  have B3' := Lib.hid (B3.out.trans (V3.mono (Nat.le_of_lt D3.out.dlt)))
  have b5 := bs33 w3
  have c33 := Lib.run_convert_bytes_const (P := Try.prog) w3 33 5 #[.int .u8 104, .int .u8 101, .int .u8 108, .int .u8 108, .int .u8 111] 5 5 Try.underlying33 Try.underlying5
  have AP := Lib.hid (ex_append D3'.out (Nat.le_of_lt D3'.out.dlt) (.slice (some ⟨w3.heap.size, 0, none⟩) 5 5) (block_liesK (l := hello) encB_len (by show (5 : Nat) ≤ _; unfold maxLen; omega) (heap_alloc_new w3 _)) (not_has D3.out 5 5))
  clear ho A2 B2 D2 V3
  go_wp2_with fail
  refine AP.out.mono ?_
  rintro e w4 ⟨rfl, a, c, ho⟩
  have D4 := Lib.hid ho.dk
  have B4 := Lib.hid (B3'.out.trans (ho.bel D3'.out (Nat.le_of_lt D3'.out.dlt)))
  have RD := Lib.hid (ex_read3 D4.out (Nat.le_of_lt D4.out.dlt))
  clear ho AP B3 B3' D3 D3' b5 c33
  go_wp2_with fail
  refine RD.out.mono ?_
  rintro e w5 ⟨v, rfl, hb⟩
  have D5 := Lib.hid (D4.out.step hb)
  have B5 := Lib.hid (B4.out.trans (hb.mono (Nat.le_of_lt D4.out.dlt)))
  have V5 := vstep w5 (.cells #[.int .i64 1] 3)
  have D5' := Lib.hid (D5.out.step V5)
  have B5' := Lib.hid (B5.out.trans (V5.mono (Nat.le_of_lt D5.out.dlt)))
  have b6 := bs34 w5
  have BO := Lib.hid (ex_boot D5'.out (.slice (some ⟨w5.heap.size, 0, none⟩) 1 1) (row_liesK (l := [(1 : Int)]) encN_len (by show (1 : Nat) ≤ _; unfold maxLen; omega) (heap_alloc_new w5 _)) (not_has D5.out 1 1))
  clear hb RD B4 D4 V5
  go_wp2_with fail
  refine BO.out.mono ?_
  rintro e w6 ⟨rfl, ho⟩
  have D6 := Lib.hid ho.dk
  have B6 := Lib.hid (B5'.out.trans (ho.bel D5'.out (Nat.le_of_lt D5'.out.dlt)))
  have RE := Lib.hid (ex_read4 D6.out (Nat.le_of_lt D6.out.dlt))
  clear ho BO B5 B5' D5 D5' b6
  go_wp2_with fail
  refine RE.out.mono ?_
  rintro e w7 ⟨g, c', rfl, hc, hb⟩
  have D7 := Lib.hid (D6.out.step hb)
  have B7 := Lib.hid (B6.out.trans (hb.mono (Nat.le_of_lt D6.out.dlt)))
  have SU := Lib.hid (ex_sure D7.out)
  have DN := Lib.hid (show Calls Try.prog 12 #[pv d] w7 fun e w' => e = .returned (.bool false) ∧ w7 = w' from down_any w7 d d _ D7.out)
  have FR := Lib.hid (ex_free D7.out)
  have cv := run_convert_bytes_arg (P := Try.prog) w7 33 5 Try.underlying33 Try.underlying5 g 0 1 c' [104] rfl (fun i hi => by
    have : i = 0 := by simp at hi; exact hi
    subst this
    exact hc) 9 Try.underlying9
  rw [show strOfNums [104] = (⟨#[104]⟩ : ByteArray) from by first | rfl | decide | simp [strOfNums]] at cv
  clear hb RE B6 D6
  go_wp2_with fail
  refine SU.out.mono ?_
  rintro e w8 ⟨rfl, rfl⟩
  go_wp2_with fail
  refine DN.out.mono ?_
  rintro e w8 ⟨rfl, rfl⟩
  go_wp2_with fail
  refine FR.out.mono ?_
  rintro e w8 ⟨rfl, hb⟩
  have B8 := Lib.hid (B7.out.trans (hb.mono (Nat.le_of_lt D7.out.dlt)))
  clear hb cv hc
  go_wp2
  go_returns
  exact ⟨rfl, by rw [HD.out]; exact B8.out⟩
end Go.Proofs.Ytoddofcmdbifpaa
