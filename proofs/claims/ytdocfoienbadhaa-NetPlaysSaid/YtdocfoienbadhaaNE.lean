/- Hurt; a flight written. -/
import Derived.Test.YtdocfoienbadhaaND
set_option linter.unusedVariables false
namespace Go.Proofs.Ytdocfoienbadhaa
open Go.RowKit

theorem x8 (a b : Nat) (ha : a < 256) (hb : b < 256) : bits .xor .u8 (a : Int) (b : Int) = ((a ^^^ b : Nat) : Int) := by
  have hx : a ^^^ b < 2 ^ 8 := Nat.xor_lt_two_pow ha hb
  show IntKind.u8.wrap ((BitVec.ofInt 8 (a : Int) ^^^ BitVec.ofInt 8 (b : Int)).toNat : Int) = _
  rw [BitVec.toNat_xor, BitVec.ofInt_natCast, BitVec.ofInt_natCast, BitVec.toNat_ofNat, BitVec.toNat_ofNat, Nat.mod_eq_of_lt (show a < 2 ^ 8 from ha), Nat.mod_eq_of_lt (show b < 2 ^ 8 from hb), IntKind.wrap_u8']
  omega
theorem xor_ne (a b : Nat) (hb : b ≠ 0) : a ^^^ b ≠ a := fun e => hb (by
  have h := congrArg (fun n => a ^^^ n) e
  simp only [Nat.xor_self, ← Nat.xor_assoc, Nat.zero_xor] at h
  exact h)
theorem flat_set : ∀ (l : List Fl) (i : Nat) (f : Fl), i < l.length → (((flat l).set (i * 3) (.int .i64 f.dst)).set (i * 3 + 1) f.bv).set (i * 3 + 2) (.bool f.hurt) = flat (l.set i f)
  | [], i, f, h => by cases h
  | g :: r, 0, f, h => rfl
  | g :: r, i + 1, f, h => by
    have ih := flat_set r i f (by simpa using h)
    show ((([.int .i64 g.dst, g.bv, .bool g.hurt] ++ flat r).set ((i + 1) * 3) _).set _ _).set _ _ = [.int .i64 g.dst, g.bv, .bool g.hurt] ++ flat (r.set i f)
    rw [← ih, show (i + 1) * 3 = i * 3 + 3 by omega]
    rfl
theorem pair_idx {R : Fl → Fl → Prop} {l : List Fl} : l.Pairwise R ↔ ∀ (i j : Nat) a b, i < j → l[i]? = some a → l[j]? = some b → R a b := by
  rw [List.pairwise_iff_getElem]
  constructor
  · intro h i j a b hij ha hb
    obtain ⟨h1, e1⟩ := List.getElem?_eq_some_iff.1 ha
    obtain ⟨h2, e2⟩ := List.getElem?_eq_some_iff.1 hb
    rw [← e1, ← e2]
    exact h i j h1 h2 hij
  · intro h i j hi hj hij
    exact h i j _ _ hij (List.getElem?_eq_getElem hi) (List.getElem?_eq_getElem hj)
def Apt (a b : Fl) : Prop := a.bv.ownBlock = none ∨ a.bv.ownBlock ≠ b.bv.ownBlock
theorem Apt.symm {a b : Fl} (h : Apt a b) : Apt b a := by
  unfold Apt at *
  cases hb : b.bv.ownBlock with
  | none => exact .inl rfl
  | some k =>
    right
    intro e
    rcases h with h | h
    · rw [h] at e; cases e
    · exact h (by rw [hb, e])
theorem apt_any {l : List Fl} (h : l.Pairwise Apt) {i j : Nat} {a b : Fl} (hij : i ≠ j) (ha : l[i]? = some a) (hb : l[j]? = some b) : Apt a b := by
  rcases Nat.lt_or_gt_of_ne hij with h1 | h1
  · exact pair_idx.1 h i j a b h1 ha hb
  · exact (pair_idx.1 h j i b a h1 hb ha).symm
/-- A flight whose row lies where another one's lay. -/
theorem apt_set {l : List Fl} (h : l.Pairwise Apt) {i : Nat} {f f' : Fl} (hf : l[i]? = some f) (hb : f'.bv.ownBlock = f.bv.ownBlock) : (l.set i f').Pairwise Apt := by
  refine pair_idx.2 fun j k a b hjk ha hb' => ?_
  have hi := (List.getElem?_eq_some_iff.1 hf).1
  rw [List.getElem?_set] at ha hb'
  by_cases e1 : i = j
  · subst e1
    rw [if_pos rfl, if_pos hi] at ha
    rw [if_neg (by omega)] at hb'
    injection ha with ha
    subst ha
    have := pair_idx.1 h i k f b hjk hf hb'
    unfold Apt at *
    rw [hb]; exact this
  · rw [if_neg e1] at ha
    by_cases e2 : i = k
    · subst e2
      rw [if_pos rfl, if_pos hi] at hb'
      injection hb' with hb'
      subst hb'
      have := pair_idx.1 h j i a f hjk ha hf
      unfold Apt at *
      rw [hb]; exact this
    · rw [if_neg e2] at hb'
      exact pair_idx.1 h j k a b hjk ha hb'
theorem u8s_set (l : List Nat) (i x : Nat) : (u8s l).set i (.int .u8 (x : Int)) = u8s (l.set i x) := by unfold u8s; rw [List.map_set]
theorem own_byte {W : World} {B : Nat} {v : Value} {bs : List Nat} (h : W.ownsRow B 5 1 v bs.length (u8s bs)) {a x : Nat} (hx : bs[a]? = some x) : ∃ g cap, v = .slice (some ⟨g, 0, none⟩) bs.length cap ∧ B ≤ g ∧ g < W.heap.size ∧ W.cell? ⟨g, a, none⟩ = some (.int .u8 (x : Int)) ∧ W.frozen? ⟨g, a, none⟩ = false ∧
    ∀ y : Nat, (W.setCell ⟨g, a, none⟩ (.int .u8 (y : Int))).ownsRow B 5 1 v bs.length (u8s (bs.set a y)) := by
  have ha := (List.getElem?_eq_some_iff.1 hx).1
  have h2 := h
  rcases h.2 with ⟨_, e⟩ | ⟨g, cap, cur, rfl, hB, hg, _⟩
  · omega
  · refine ⟨g, cap, rfl, hB, lt_of_block hg, ?_, h2.frozenAt _, fun y => ?_⟩
    · rw [h2.cellAt a (by omega), u8s_get, hx]; rfl
    · have := h2.stored a (.int .u8 (y : Int))
      rw [u8s_set] at this
      exact this.1
def hurtF (f : Fl) (a b : Nat) (x : Nat) : Fl := ⟨f.dst, f.bv, f.bs.set a (x ^^^ b), true⟩
theorem net_hurt {B : Nat} {W : World} {p g g' : Nat} {fv : Value} {fl : List Fl} {lost : Int} (h : NetAt B W p fv fl lost) {i : Nat} {f : Fl} (hf : fl[i]? = some f) {a b x : Nat} (hx : f.bs[a]? = some x) (hb : b < 256)
    (hg : f.bv.ownBlock = some g) (hfv : fv.ownBlock = some g') (hW : (W.setCell ⟨g, a, none⟩ (.int .u8 ((x ^^^ b : Nat) : Int))).ownsRow B 5 1 f.bv f.bs.length (u8s (f.bs.set a (x ^^^ b))))
    (hst : ∀ W' : World, W'.ownsRow B 39 3 fv fl.length (flat fl) → (W'.setCell ⟨g', i * 3 + 2, none⟩ (.bool true)).ownsRow B 39 3 fv fl.length (flat (fl.set i (hurtF f a b x)))) :
    NetAt B ((W.setCell ⟨g, a, none⟩ (.int .u8 ((x ^^^ b : Nat) : Int))).setCell ⟨g', i * 3 + 2, none⟩ (.bool true)) p fv (fl.set i (hurtF f a b x)) lost := by
  have hi := (List.getElem?_eq_some_iff.1 hf).1
  have hmem := List.mem_iff_getElem?.2 ⟨i, hf⟩
  have hap := h.ap2 f hmem
  have hby := h.byt f hmem
  have hgp : p ≠ g := fun e => hap.1 (by rw [hg, e])
  have hgg : g ≠ g' := fun e => by
    rcases hap.2 with h2 | h2
    · rw [hg] at h2; cases h2
    · exact h2 (by rw [hg, hfv, e])
  have hgp' : p ≠ g' := fun e => h.ap1 (by rw [hfv, e])
  have hmem' : ∀ y ∈ fl.set i (hurtF f a b x), y = hurtF f a b x ∨ ∃ j, j ≠ i ∧ fl[j]? = some y := fun y hy => by
    obtain ⟨j, hj⟩ := List.mem_iff_getElem?.1 hy
    rw [List.getElem?_set] at hj
    by_cases e : i = j
    · subst e; rw [if_pos rfl, if_pos hi] at hj; injection hj with hj; exact .inl hj.symm
    · rw [if_neg e] at hj; exact .inr ⟨j, fun e2 => e e2.symm, hj⟩
  refine ⟨?_, ?_, ?_, h.pB, h.ap1, ?_, ?_, by rw [List.length_set]; exact h.len, h.lo⟩
  · exact (Below.heap_setCell _ _ _ _ hgp').trans ((Below.heap_setCell _ _ _ _ hgp).trans h.row0)
  · rw [List.length_set]
    exact hst _ (own_setCell h.row (by rw [hfv]; intro e; injection e with e; exact hgg e.symm))
  · intro y hy
    rcases hmem' y hy with e | ⟨j, hj, hyj⟩
    · subst e
      refine ⟨?_, fun z hz => ?_, ?_⟩
      · show World.ownsRow _ B 5 1 f.bv (f.bs.set a (x ^^^ b)).length (u8s (f.bs.set a (x ^^^ b)))
        rw [List.length_set]
        exact own_setCell hW (by rw [hg]; intro e; injection e with e; exact hgg e)
      · have hz' : z ∈ f.bs.set a (x ^^^ b) := hz
        rcases List.mem_or_eq_of_mem_set hz' with h1 | h1
        · exact hby.2.1 z h1
        · rw [h1]; exact Nat.xor_lt_two_pow (n := 8) (hby.2.1 x (List.mem_iff_getElem?.2 ⟨a, hx⟩)) hb
      · show (f.bs.set a (x ^^^ b)).length ≤ 1000
        rw [List.length_set]; exact hby.2.2
    · have hym := List.mem_iff_getElem?.2 ⟨j, hyj⟩
      have h1 := h.byt y hym
      have h2 := h.ap2 y hym
      refine ⟨own_setCell (own_setCell h1.1 ?_) ?_, h1.2⟩
      · intro e
        rcases apt_any h.ap3 hj hyj hf with h3 | h3
        · rw [h3] at e; cases e
        · exact h3 (by rw [hg, e])
      · intro e
        rcases h2.2 with h3 | h3
        · rw [h3] at e; cases e
        · exact h3 (by rw [hfv, e])
  · intro y hy
    rcases hmem' y hy with e | ⟨j, hj, hyj⟩
    · subst e; exact hap
    · exact h.ap2 y (List.mem_iff_getElem?.2 ⟨j, hyj⟩)
  · exact apt_set h.ap3 hf rfl
theorem flag_set {W' : World} {B g' cap : Nat} {fl : List Fl} {i : Nat} {f : Fl} (hf : fl[i]? = some f) (bs : List Nat) (h : W'.ownsRow B 39 3 (.slice (some ⟨g', 0, none⟩) fl.length cap) fl.length (flat fl)) :
    (W'.setCell ⟨g', i * 3 + 2, none⟩ (.bool true)).ownsRow B 39 3 (.slice (some ⟨g', 0, none⟩) fl.length cap) fl.length (flat (fl.set i ⟨f.dst, f.bv, bs, true⟩)) := by
  have hi := (List.getElem?_eq_some_iff.1 hf).1
  have := h.stored (i * 3 + 2) (.bool true)
  have e : (flat fl).set (i * 3 + 2) (.bool true) = flat (fl.set i ⟨f.dst, f.bv, bs, true⟩) := by
    rw [← flat_set fl i ⟨f.dst, f.bv, bs, true⟩ hi]
    obtain ⟨a0, a1, a2⟩ := flat_at fl i f hf
    congr 1
    have e0 : (flat fl).set (i * 3) (.int .i64 f.dst) = flat fl := List.ext_getElem? fun j => by
      rw [List.getElem?_set]
      split
      · rename_i e; subst e; split
        · exact a0.symm
        · rename_i hh; rw [List.getElem?_eq_none (by omega)]
      · rfl
    have e1 : (flat fl).set (i * 3 + 1) f.bv = flat fl := List.ext_getElem? fun j => by
      rw [List.getElem?_set]
      split
      · rename_i e; subst e; split
        · exact a1.symm
        · rename_i hh; rw [List.getElem?_eq_none (by omega)]
      · rfl
    show flat fl = ((flat fl).set (i * 3) (.int .i64 f.dst)).set (i * 3 + 1) f.bv
    rw [e0, e1]
  rw [e] at this
  exact this.1
set_option maxRecDepth 100000 in
set_option maxHeartbeats 1600000 in
theorem hurt_out {B : Nat} (w : World) (p : Nat) (fv : Value) (fl : List Fl) (lost : Int) (h : NetAt B w p fv fl lost) (k at_ by_ : Int) (hk : ¬ (0 ≤ k ∧ k < (fl.length : Int))) :
    Calls Try.prog 17 #[.pointer (some ⟨p, 0, none⟩), .int .i64 k, .int .i64 at_, .int .i64 by_] w fun e w' => e = .returned (.int .i64 8) ∧ w = w' := by
  have FI := Lib.hid (find_any w p fv fl lost h k)
  rw [find_out hk] at FI
  clear h hk
  go_enter Try.func17, Try.ntmps17
  go_wp2_with fail
  refine FI.out.mono ?_
  rintro e w1 ⟨rfl, rfl⟩
  go_wp2
  go_returns
  exact ⟨rfl, rfl⟩
/-- What Hurt answers of a flight. -/
def hurtE (f : Fl) (at_ by_ : Int) : Int := if f.hurt then 9 else if 0 ≤ at_ ∧ at_ < (f.bs.length : Int) ∧ 1 ≤ by_ ∧ by_ ≤ 255 then 0 else 2
set_option maxRecDepth 100000 in
set_option maxHeartbeats 3200000 in
theorem hurt_bad {B : Nat} (w : World) (p : Nat) (fv : Value) (fl : List Fl) (lost : Int) (h : NetAt B w p fv fl lost) (i : Nat) (f : Fl) (hf : fl[i]? = some f) (at_ by_ : Int) (hbad : f.hurt = true ∨ ¬ (0 ≤ at_ ∧ at_ < (f.bs.length : Int) ∧ 1 ≤ by_ ∧ by_ ≤ 255)) :
    Calls Try.prog 17 #[.pointer (some ⟨p, 0, none⟩), .int .i64 (i : Int), .int .i64 at_, .int .i64 by_] w fun e w' => e = .returned (.int .i64 (hurtE f at_ by_)) ∧ w = w' := by
  have hi := (List.getElem?_eq_some_iff.1 hf).1
  have FI := Lib.hid (find_any w p fv fl lost h (i : Int))
  rw [find_in hi] at FI
  obtain ⟨g, cap, rfl, _, _, c0, c1, c2⟩ := row_at h.row hf
  have hby := h.byt f (List.mem_iff_getElem?.2 ⟨i, hf⟩)
  have hlb := hby.2.2
  obtain ⟨ab, cb, hbv⟩ := own_shape hby.1
  have cp := cell_of_row _ p 0 _ _ _ h.row0
  simp at cp
  rw [hbv] at c1
  have hlen := h.len
  have hi1 : (0 : Int) ≤ (i : Int) := by omega
  have hi2 : (i : Int) < (fl.length : Int) := by omega
  clear hbv hby h
  cases hh : f.hurt with
  | true =>
    have HE := Lib.hid (show hurtE f at_ by_ = 9 by unfold hurtE; rw [hh]; rfl)
    rw [hh] at c2
    clear hbad hh hf
    go_enter Try.func17, Try.ntmps17
    go_wp2_with fail
    refine FI.out.mono ?_
    rintro e w1 ⟨rfl, rfl⟩
    go_wp2
    go_returns
    exact ⟨by rw [HE.out]; rfl, rfl⟩
  | false =>
    have hb := hbad.resolve_left (by rw [hh]; decide)
    have HE := Lib.hid (show hurtE f at_ by_ = 2 by unfold hurtE; rw [hh, if_neg Bool.false_ne_true, if_neg hb])
    rw [hh] at c2
    have hcase : at_ < 0 ∨ (¬ at_ < 0 ∧ (f.bs.length : Int) ≤ at_) ∨ (¬ at_ < 0 ∧ ¬ (f.bs.length : Int) ≤ at_ ∧ by_ < 1) ∨ (¬ at_ < 0 ∧ ¬ (f.bs.length : Int) ≤ at_ ∧ ¬ by_ < 1 ∧ 255 < by_) := by omega
    clear hbad hh hf hb
    rcases hcase with h1 | ⟨h1, h2⟩ | ⟨h1, h2, h3⟩ | ⟨h1, h2, h3, h4⟩
    all_goals
      go_enter Try.func17, Try.ntmps17
      go_wp2_with fail
      refine FI.out.mono ?_
      rintro e w1 ⟨rfl, rfl⟩
      go_wp2
      go_returns
      exact ⟨by rw [HE.out]; rfl, rfl⟩
set_option maxRecDepth 100000 in
set_option maxHeartbeats 3200000 in
theorem hurt_k {w0 : World} (w : World) (p : Nat) (fv : Value) (fl : List Fl) (lost : Int) (h : NetAt w0.heap.size w p fv fl lost) (h0 : Below w0.heap.size w0 w) (i : Nat) (f : Fl) (hf : fl[i]? = some f) (hh : f.hurt = false) (a b x : Nat) (hx : f.bs[a]? = some x) (hb1 : 1 ≤ b) (hb2 : b < 256) :
    Calls Try.prog 17 #[.pointer (some ⟨p, 0, none⟩), .int .i64 (i : Int), .int .i64 (a : Int), .int .i64 (b : Int)] w fun e w' => e = .returned (.int .i64 0) ∧ NetAt w0.heap.size w' p fv (fl.set i (hurtF f a b x)) lost ∧ Below w0.heap.size w0 w' ∧ Kp w w' p fv fl fv (fl.set i (hurtF f a b x)) := by
  have hi := (List.getElem?_eq_some_iff.1 hf).1
  have FI := Lib.hid (find_any w p fv fl lost h (i : Int))
  rw [find_in hi] at FI
  have hmem := List.mem_iff_getElem?.2 ⟨i, hf⟩
  have hby := h.byt f hmem
  have hap := h.ap2 f hmem
  have hlb := hby.2.2
  have hx256 := hby.2.1 x (List.mem_iff_getElem?.2 ⟨a, hx⟩)
  have ha := (List.getElem?_eq_some_iff.1 hx).1
  obtain ⟨g', cap, hfv, hB', _, c0, c1, c2⟩ := row_at h.row hf
  obtain ⟨g, cb, hbv, hB, _, k0, kf, kst⟩ := own_byte hby.1 hx
  have hgg : g ≠ g' := fun e => by
    rcases hap.2 with h2 | h2
    · rw [hbv] at h2; cases h2
    · exact h2 (by rw [hbv, hfv, e]; rfl)
  have NH := Lib.hid (net_hurt (g := g) (g' := g') h hf hx hb2 (by rw [hbv]; rfl) (by rw [hfv]; rfl) (kst _) (fun W' hW' => by rw [hfv] at hW' ⊢; exact flag_set hf _ hW'))
  have BB := Lib.hid (show Below w0.heap.size w0 ((w.setCell ⟨g, a, none⟩ (.int .u8 ((x ^^^ b : Nat) : Int))).setCell ⟨g', i * 3 + 2, none⟩ (.bool true)) from (h0.setCell (p := ⟨g, a, none⟩) hB _).setCell (p := ⟨g', i * 3 + 2, none⟩) hB' _)
  have KK := Lib.hid (show Kp w ((w.setCell ⟨g, a, none⟩ (.int .u8 ((x ^^^ b : Nat) : Int))).setCell ⟨g', i * 3 + 2, none⟩ (.bool true)) p fv fl fv (fl.set i (hurtF f a b x)) from by
    have o1 : NOwn p fv fl g := .inr (.inr ⟨f, hmem, by rw [hbv]; rfl⟩)
    have o2 : NOwn p fv fl g' := .inr (.inl (by rw [hfv]; rfl))
    refine (((Kp.of_below (Below.refl w.heap.size w)).setOwn o1).setOwn o2).newOwn fun j hj => .inl ?_
    rcases hj with h1 | h1 | ⟨y, hy, h1⟩
    · exact .inl h1
    · exact .inr (.inl h1)
    · rcases List.mem_or_eq_of_mem_set hy with hy | rfl
      · exact .inr (.inr ⟨y, hy, h1⟩)
      · exact .inr (.inr ⟨f, hmem, h1⟩))
  have cp := cell_of_row _ p 0 _ _ _ h.row0
  simp at cp
  have f2 : w.frozen? ⟨g', i * 3 + 2, none⟩ = false := by have := h.row; rw [hfv] at this; exact this.frozenAt _
  rw [hfv] at cp
  rw [hbv] at c1
  rw [hh] at c2
  have hlen := h.len
  have hi1 : (0 : Int) ≤ (i : Int) := by omega
  have hi2 : (i : Int) < (fl.length : Int) := by omega
  have e8 := x8 x b hx256 hb2
  have ew : IntKind.u8.wrap (b : Int) = (b : Int) := by rw [IntKind.wrap_u8']; omega
  have ha1 : ¬ (a : Int) < 0 := by omega
  have ha2 : ¬ (f.bs.length : Int) ≤ (a : Int) := by omega
  have hb3 : ¬ (b : Int) < 1 := by omega
  have hb4 : ¬ 255 < (b : Int) := by omega
  obtain ⟨y, hy⟩ : ∃ y, x ^^^ b = y := ⟨_, rfl⟩
  rw [hy] at e8 NH BB KK
  have c2' : (w.setCell ⟨g, a, none⟩ (.int .u8 (y : Int))).cell? ⟨g', i * 3 + 2, none⟩ = some (.bool false) := (World.cell?_of_block (a := ⟨g', i * 3 + 2, none⟩) (Below.heap_setCell _ _ _ _ (fun e => hgg e.symm))).trans c2
  have f2' : (w.setCell ⟨g, a, none⟩ (.int .u8 (y : Int))).frozen? ⟨g', i * 3 + 2, none⟩ = false := (World.frozen?_of_block (a := ⟨g', i * 3 + 2, none⟩) (Below.heap_setCell _ _ _ _ (fun e => hgg e.symm))).trans f2
  clear hbv hby h h0 hap hmem hfv hgg kst hy hf hx hh
  go_enter Try.func17, Try.ntmps17
  go_wp2_with fail
  refine FI.out.mono ?_
  rintro e w1 ⟨rfl, rfl⟩
  go_wp2
  go_returns
  exact ⟨rfl, NH.out, BB.out, KK.out⟩
theorem hurt_in {w0 : World} (w : World) (p : Nat) (fv : Value) (fl : List Fl) (lost : Int) (h : NetAt w0.heap.size w p fv fl lost) (h0 : Below w0.heap.size w0 w) (i : Nat) (f : Fl) (hf : fl[i]? = some f) (hh : f.hurt = false) (a b x : Nat) (hx : f.bs[a]? = some x) (hb1 : 1 ≤ b) (hb2 : b < 256) :
    Calls Try.prog 17 #[.pointer (some ⟨p, 0, none⟩), .int .i64 (i : Int), .int .i64 (a : Int), .int .i64 (b : Int)] w fun e w' => e = .returned (.int .i64 0) ∧ NetAt w0.heap.size w' p fv (fl.set i (hurtF f a b x)) lost ∧ Below w0.heap.size w0 w' :=
  (hurt_k w p fv fl lost h h0 i f hf hh a b x hx hb1 hb2).mono fun _ _ ⟨h1, h2, h3, _⟩ => ⟨h1, h2, h3⟩
end Go.Proofs.Ytdocfoienbadhaa
