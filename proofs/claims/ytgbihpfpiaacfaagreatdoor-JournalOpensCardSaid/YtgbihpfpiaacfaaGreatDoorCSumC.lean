/- A sum as bytes; bytes compared, cloned, put side by side; Seal of both; Runs. -/
import Derived.Test.YtgbihpfpiaacfaaGreatDoorCSumB
import Derived.Test.YtgbihpfpiaacfaaGreatDoorCLater
set_option linter.unusedVariables false
namespace Go.Proofs.YtgbihpfpiaacfaaGreatDoor.Rc
open Go.RowKit

theorem ba_ext {a b : ByteArray} (h : a.data.toList = b.data.toList) : a = b := by
  cases a with | mk x => cases b with | mk y => exact congrArg ByteArray.mk (Array.ext' h)
theorem tl_eq {a b : ByteArray} (h : a = b) : (a.toList == b.toList) = true := by rw [h]; simp
theorem tl_ne {a b : ByteArray} (h : a ≠ b) : (a.toList == b.toList) = false := by
  rw [beq_eq_false_iff_ne, ByteArray.toList_eq, ByteArray.toList_eq]
  exact fun e => h (ba_ext e)
def ints (l : List Nat) : List Int := l.map fun n : Nat => (n : Int)
theorem ints_length (l : List Nat) : (ints l).length = l.length := List.length_map _
theorem str_inj : ∀ {l m : List Nat}, Byt l → Byt m → strOfNums (ints l) = strOfNums (ints m) → l = m := by
  intro l m hl hm h
  have e := congrArg (fun b : ByteArray => b.data.toList.map (·.toNat)) h
  simp only [strOfNums_data, ints, List.map_map] at e
  have back : ∀ {k : List Nat}, Byt k → k.map ((fun x : UInt8 => x.toNat) ∘ (fun n : Int => UInt8.ofNat n.toNat) ∘ fun n : Nat => (n : Int)) = k := by
    intro k hk
    refine (List.map_congr_left (g := id) ?_).trans (List.map_id _)
    intro x hx
    have := hk x hx
    show (UInt8.ofNat (x : Int).toNat).toNat = x
    rw [UInt8.toNat_ofNat']
    omega
  rw [back hl, back hm] at e
  exact e
theorem conv_lies {w : World} {v : Value} {bs : List Nat} (h : Lies w v bs) (hne : bs ≠ []) : (convert 39 9 v).run Tryz.prog w = .ok (.string (strOfNums (ints bs))) w := by
  obtain ⟨ao, cap, rfl, _, _, h0, hc⟩ := h
  cases ao with
  | none =>
    obtain ⟨rfl, rfl⟩ := h0 rfl
    have h := run_convert_bytes_string w 39 9 5 none 0 0 Tryz.underlying39 Tryz.underlying5 Tryz.underlying9
    show (convert 39 9 (Value.slice none 0 0)).run Tryz.prog w = _
    rw [h]
    simp [Conv.bytesToString]; rfl
  | some b =>
    obtain ⟨k, o, rfl, _, hc⟩ := hc b rfl hne
    refine run_convert_bytes_arg w 39 5 Tryz.underlying39 Tryz.underlying5 k o bs.length cap (ints bs) (ints_length bs) (fun i hi => ?_) 9 Tryz.underlying9
    rw [hc i bs[i] (List.getElem?_eq_getElem hi)]
    unfold ints
    rw [List.getD_eq_getElem?_getD, List.getElem?_map, List.getElem?_eq_getElem hi]
    rfl

theorem own_new (w : World) (l : List Nat) (hl : l.length ≤ maxLen) : (w.alloc (.cells (u8s l).toArray 5)).ownsRow w.heap.size 5 1 (.slice (some ⟨w.heap.size, 0, none⟩) l.length l.length) l.length (u8s l) := by
  refine ⟨by rw [u8s_length, Nat.mul_one], .inr ⟨w.heap.size, l.length, (u8s l).toArray, rfl, Nat.le_refl _, heap_alloc_new w _, Nat.le_refl _, hl, ?_, ?_⟩⟩
  · rw [List.size_toArray, u8s_length, Nat.mul_one]
  · rw [List.take_of_length_le (by simp [u8s_length])]

set_option maxRecDepth 100000 in
set_option maxHeartbeats 400000 in
theorem told_any (w : World) (s : Nat) (hs : s < 4294967296) :
    Calls Tryz.prog 86 #[.int .u32 s] w fun e w' => ∃ r, e = .returned r ∧ RowOut w w' r (le4 s) := by
  obtain ⟨b0, h0⟩ : ∃ b0, b0 = s % 256 := ⟨_, rfl⟩
  obtain ⟨q1, h1⟩ : ∃ q1, q1 = s / 256 := ⟨_, rfl⟩
  obtain ⟨b1, g1⟩ : ∃ b1, b1 = q1 % 256 := ⟨_, rfl⟩
  obtain ⟨q2, h2⟩ : ∃ q2, q2 = s / 65536 := ⟨_, rfl⟩
  obtain ⟨b2, g2⟩ : ∃ b2, b2 = q2 % 256 := ⟨_, rfl⟩
  obtain ⟨q3, h3⟩ : ∃ q3, q3 = s / 16777216 := ⟨_, rfl⟩
  obtain ⟨b3, g3⟩ : ∃ b3, b3 = q3 % 256 := ⟨_, rfl⟩
  have e1 : (s : Int) / 256 = (q1 : Int) := by omega
  have e2 : (s : Int) / 65536 = (q2 : Int) := by omega
  have e3 : (s : Int) / 16777216 = (q3 : Int) := by omega
  have f0 : IntKind.u8.wrap (s : Int) = (b0 : Int) := by rw [IntKind.wrap_u8']; omega
  have f1 : IntKind.u8.wrap (q1 : Int) = (b1 : Int) := by rw [IntKind.wrap_u8']; omega
  have f2 : IntKind.u8.wrap (q2 : Int) = (b2 : Int) := by rw [IntKind.wrap_u8']; omega
  have f3 : IntKind.u8.wrap (q3 : Int) = (b3 : Int) := by rw [IntKind.wrap_u8']; omega
  have HL : Hid (le4 s = [b0, b1, b2, b3]) := Lib.hid (by unfold le4; rw [h0, g1, h1, g2, h2, g3, h3])
  have HO := Lib.hid (own_new w [b0, b1, b2, b3] (by unfold maxLen; simp))
  clear h0 h1 h2 h3 g1 g2 g3
  go_enter Tryz.func86, Tryz.ntmps86
  go_wp2
  go_returns
  refine ⟨_, rfl, ?_⟩
  rw [HL.out]
  exact ⟨HO.out, (Below.refl _ _).alloc (Nat.le_refl _) _⟩

set_option maxRecDepth 100000 in
set_option maxHeartbeats 400000 in
theorem equal_any (w : World) (v1 v2 : Value) (l m : List Nat) (h1 : Lies w v1 l) (h2 : Lies w v2 m) (hl : Byt l) (hm : Byt m) (nl : l ≠ []) (nm : m ≠ []) (b : Bool) (hb : b = true ↔ l = m) :
    Calls Tryz.prog 123 #[v1, v2] w fun e w' => e = .returned (.bool b) ∧ w = w' := by
  have c1 := conv_lies h1 nl
  have c2 := conv_lies h2 nm
  have t : ((strOfNums (ints l)).toList == (strOfNums (ints m)).toList) = b := by
    cases b with
    | true => exact tl_eq (by rw [hb.1 rfl])
    | false => exact tl_ne (fun e => by have := hb.2 (str_inj hl hm e); cases this)
  generalize strOfNums (ints l) = s1 at *
  generalize strOfNums (ints m) = s2 at *
  obtain ⟨a1, p1, rfl, _⟩ := h1
  obtain ⟨a2, p2, rfl, _⟩ := h2
  clear hb
  go_enter Tryz.func123, Tryz.ntmps123
  go_wp2
  go_returns
  exact ⟨rfl, rfl⟩

set_option maxRecDepth 100000 in
set_option maxHeartbeats 400000 in
theorem clone_any (w : World) (v : Value) (bs : List Nat) (h : Lies w v bs) (hl : bs.length ≤ 1000000) :
    Calls Tryz.prog 71 #[v] w fun e w' => ∃ r, e = .returned r ∧ RowOut w w' r bs := by
  obtain ⟨i0, hi, hz0, hz1, hz2⟩ := info_parts Tryz.info5
  have H := Lib.hid h
  obtain ⟨ao, cap, rfl, hn, hmx, h0, hc⟩ := h
  clear hc
  cases ao with
  | none =>
    obtain ⟨rfl, rfl⟩ := h0 rfl
    have kc := fun W => Lib.run_eql_slice_nil (P := Tryz.prog) W 39 5 none 0 0 0 0 Tryz.underlying39
    go_enter Tryz.func71, Tryz.ntmps71
    go_wp2
    go_returns
    exact ⟨_, rfl, World.ownsRow_nil _ _ _ _, Below.refl _ _⟩
  | some b =>
    clear h0
    have kc := fun W => Lib.run_eql_slice_nil (P := Tryz.prog) W 39 5 (some b) bs.length cap 0 0 Tryz.underlying39
    go_enter Tryz.func71, Tryz.ntmps71
    have hX := (Below.refl w.heap.size w).alloc (Nat.le_refl _) (.cells #[] 5)
    have hL := (H.out.later hX).src
    have HL := Lib.hid hL
    clear hL hX
    go_wp2_with (at_builtin; refine wpList_append_src_own rfl (.tmp 5) (.tmp 6) 39 39 rfl w.heap.size 5 i0 (.int .u8 0) 1 1 Tryz.underlying39 hi hz0 hz1 hz2 rfl (by decide) _ 0 [] rfl (own_empty w _ 5 1 (Nat.le_refl _)) _ bs.length (u8s bs) rfl HL.out (by unfold maxLen; omega) (by omega) (by simp) ?_; intro v1 w1 hown hgr hsp)
    go_returns
    rw [Nat.zero_add, List.nil_append] at hown
    exact ⟨_, rfl, hown, ((Below.refl w.heap.size w).alloc (Nat.le_refl _) (.cells #[] 5)).grown hgr (by simp) (fun k hk => by simp [Act.eval, Value.ownBlock] at hk; omega)⟩

set_option maxRecDepth 100000 in
set_option maxHeartbeats 800000 in
theorem grow_any (w : World) (n : Nat) (hn : n ≤ 1000000) :
    Calls Tryz.prog 88 #[.slice none 0 0, .int .i64 n] w fun e w' => ∃ r, e = .returned r ∧ RowOut w w' r [] := by
  obtain ⟨i0, hi, hz0, hz1, hz2⟩ := info_parts Tryz.info5
  by_cases h0 : n = 0
  · subst h0
    go_enter Tryz.func88, Tryz.ntmps88
    go_wp2
    go_returns
    exact ⟨_, rfl, World.ownsRow_nil _ _ _ _, Below.refl _ _⟩
  · have hold : (Builtin.firstCells i0.size 0 (.slice none 0 0)).run Tryz.prog w.drew = .ok ([] : List Value).toArray w.drew := run_firstCells_none w.drew i0.size 0 0 0
    have hcap : Builtin.nextslicecap (0 + n) 0 = n := by rw [nextslicecap_zero (by omega)]; omega
    have hr := fun ty => Lib.run_append_grow_zeros (P := Tryz.prog) w 39 3 ty 5 i0 (.int .u8 0) .i64 .i64 Tryz.underlying39 Tryz.underlying3 hi hz0 none 0 0 [] hold n (by omega) (by omega) (by omega) (by omega) (by rw [hz2]; omega) (by rw [hcap, hz2]; omega)
    have hge := grownCap_ge w (0 + n) 0 5
    have hmx := grownCap_le_maxLen w (0 + n) 0 5 (by unfold maxLen; omega)
    generalize grownCap w (0 + n) 0 5 = G at *
    have hmx2 : G ≤ 9223372036854775807 := by unfold maxLen at hmx; omega
    have h1 : (0 : Int) < (n : Int) := by omega
    have HX : Hid (∀ C : Array Value, C.size = G → RowOut w (w.drew.alloc (.cells C 5)) (.slice (some ⟨w.heap.size, 0, none⟩) 0 G) []) := Lib.hid (fun C hC => by
      refine ⟨⟨rfl, .inr ⟨w.heap.size, G, C, rfl, Nat.le_refl _, heap_alloc_new w.drew _, Nat.zero_le _, hmx, by rw [hC, Nat.mul_one], rfl⟩⟩, ?_⟩
      exact (⟨rfl, rfl, rfl, Nat.le_refl _, fun _ _ => rfl⟩ : Below w.heap.size w w.drew).alloc (Nat.le_refl _) _)
    have HS : Hid ((Builtin.zeroCells #[Value.int .u8 0] n ++ Builtin.zeroCells #[Value.int .u8 0] (G - n)).size = G) := Lib.hid (by
      simp only [Array.size_append, size_zeroCells]
      have : (#[Value.int IntKind.u8 0] : Array Value).size = 1 := rfl
      rw [this]; omega)
    clear hold hcap h0
    go_enter Tryz.func88, Tryz.ntmps88
    go_wp2_with (at_builtin; refine Lib.wpList_append_run _ rfl (.tmp 20) (.tmp 21) 39 3 rfl _ _ rfl rfl _ _ (hr _) ?_)
    go_returns
    exact ⟨_, rfl, HX.out _ HS.out⟩

/-- A slice of slices of bytes. -/
def Rows2 (w : World) (v : Value) (Ls : List (Value × List Nat)) : Prop := ∃ ao cap, v = .slice ao Ls.length cap ∧ (ao = none → Ls = []) ∧
  (∀ b, ao = some b → ∃ k o, b = ⟨k, o, none⟩ ∧ k < w.heap.size ∧ ∀ (j : Nat) p, Ls[j]? = some p → w.cell? ⟨k, o + j, none⟩ = some p.1) ∧ ∀ p ∈ Ls, Lies w p.1 p.2 ∧ Byt p.2
def cats (Ls : List (Value × List Nat)) : List Nat := Ls.flatMap (·.2)
theorem cats_snoc (Ls : List (Value × List Nat)) (p : Value × List Nat) : cats (Ls ++ [p]) = cats Ls ++ p.2 := by unfold cats; rw [List.flatMap_append]; simp
theorem cats_le (Ls : List (Value × List Nat)) (i : Nat) : (cats (Ls.take i)).length ≤ (cats Ls).length := by
  conv => rhs; rw [← List.take_append_drop i Ls]
  unfold cats
  rw [List.flatMap_append, List.length_append]; omega

set_option maxRecDepth 100000 in
set_option maxHeartbeats 1600000 in
theorem concat_any (w : World) (v : Value) (Ls : List (Value × List Nat)) (h : Rows2 w v Ls) (hn : Ls.length ≤ 1000) (hl : (cats Ls).length ≤ 300000) :
    Calls Tryz.prog 62 #[v] w fun e w' => ∃ r, e = .returned r ∧ RowOut w w' r (cats Ls) := by
  obtain ⟨i0, hi, hz0, hz1, hz2⟩ := info_parts Tryz.info5
  obtain ⟨ao, cap, rfl, hno, hcells, hlies⟩ := h
  have HC := Lib.hid hcells
  have HL := Lib.hid hlies
  have HN := Lib.hid hno
  clear hcells hlies hno
  go_enter Tryz.func62, Tryz.ntmps62
  go_wp2
  go_loop [3, 5, 11] (fun sv _ iv => ∃ i s : Nat, iv = .int .i64 i ∧ i ≤ Ls.length ∧ sv = .int .i64 s ∧ s ≤ 300000 ∧ Hid (s = (cats (Ls.take i)).length)) (fun _ _ iv => Ls.length - (intOf iv).toNat)
  case atStart => exact ⟨0, 0, rfl, by omega, rfl, by omega, Lib.hid rfl⟩
  case round =>
    obtain ⟨i, s, rfl, hil, rfl, hs, hS⟩ := hrel
    by_cases hlt : i < Ls.length
    · obtain ⟨p, hp⟩ : ∃ p, Ls[i]? = some p := ⟨_, List.getElem?_eq_getElem hlt⟩
      have htk := take_snoc' Ls i p hp
      have hcl := cats_le Ls (i + 1)
      rw [htk, cats_snoc, List.length_append, ← hS.out] at hcl
      have HN2 : Hid (s + p.2.length = (cats (Ls.take (i + 1))).length) := Lib.hid (by rw [htk, cats_snoc, List.length_append, ← hS.out])
      obtain ⟨hpl, _⟩ := HL.out p (List.mem_of_getElem? hp)
      obtain ⟨pa, pc, hpe, _⟩ := hpl
      cases ao with
      | none => have := HN.out rfl; rw [this] at hlt; simp at hlt
      | some b =>
        obtain ⟨k, o, rfl, _, hc⟩ := HC.out b rfl
        have d := hc i p hp
        rw [hpe] at d
        generalize p.2.length = n at *
        have hs2 : s + n ≤ 300000 := by omega
        clear hc htk hcl hp hS hpe
        go_wp2
        go_round
        case rel => exact ⟨i + 1, s + n, by go_num, by omega, by go_num, by omega, HN2⟩
        case measure => simp [intOf]; omega
    · go_wp2_with fail
      refine (grow_any w s (by omega)).mono ?_
      rintro e w1 ⟨r, rfl, ho⟩
      have HO := Lib.hid ho
      obtain ⟨ra, rc, rfl⟩ := own_shape ho.1
      clear ho
      go_wp2
      go_loopw [6, 8, 27] (fun bv _ iv wr => ∃ (i : Nat) (cs : List Nat), iv = .int .i64 i ∧ i ≤ Ls.length ∧ cs.length ≤ 300000 ∧ Hid (cs = cats (Ls.take i)) ∧ wr.ownsRow w.heap.size 5 1 bv cs.length (u8s cs) ∧ Below w.heap.size w wr) (fun _ _ iv _ => Ls.length - (intOf iv).toNat)
      case atStart => exact ⟨0, [], rfl, by omega, by simp, Lib.hid rfl, HO.out.1, HO.out.2⟩
      case round =>
        obtain ⟨i, cs, rfl, hil, hcs, hS, hW, hE⟩ := hrel
        have HW := Lib.hid hW
        have HE := Lib.hid hE
        have hB2 := hE.size
        obtain ⟨ba, bc, rfl⟩ := own_shape hW
        clear hW hE
        by_cases hlt : i < Ls.length
        · obtain ⟨p, hp⟩ : ∃ p, Ls[i]? = some p := ⟨_, List.getElem?_eq_getElem hlt⟩
          have htk := take_snoc' Ls i p hp
          have hcl := cats_le Ls (i + 1)
          rw [htk, cats_snoc, List.length_append, ← hS.out] at hcl
          have hcl2 : (cs ++ p.2).length ≤ 300000 := by rw [List.length_append]; omega
          have hcl3 : cs.length + p.2.length ≤ 300000 := by omega
          have HN2 : Hid (cs ++ p.2 = cats (Ls.take (i + 1))) := Lib.hid (by rw [htk, cats_snoc, ← hS.out])
          obtain ⟨hpl, _⟩ := HL.out p (List.mem_of_getElem? hp)
          have HSrc := Lib.hid ((hpl.later HE.out).src)
          obtain ⟨pa, pc, hpe, _⟩ := hpl
          cases ao with
          | none => have := HN.out rfl; rw [this] at hlt; simp at hlt
          | some b =>
            obtain ⟨k, o, rfl, hkw, hc⟩ := HC.out b rfl
            have d := (HE.out.cell (p := ⟨k, o + i, none⟩) hkw).trans (hc i p hp)
            rw [hpe] at d HSrc
            clear hc htk hcl hp hS hpe
            go_wp2_with (at_builtin; refine wpList_append_src_own rfl (.tmp 31) (.tmp 32) 39 39 rfl w.heap.size 5 i0 (.int .u8 0) 1 1 Tryz.underlying39 hi hz0 hz1 hz2 rfl (by decide) _ _ _ rfl HW.out _ p.2.length (u8s p.2) rfl HSrc.out (by unfold maxLen; omega) (by omega) (by omega) ?_; intro v3 w3 hown hgr hspr; have K := Lib.hid (And.intro hown (HE.out.grown hgr hB2 (fun k hk => (HW.out.lt k hk).1))); clear hown hgr hspr)
            go_roundw
            case rel => exact ⟨i + 1, cs ++ p.2, by go_num, by omega, hcl2, HN2, by rw [u8s_append, List.length_append]; exact K.out.1, K.out.2⟩
            case measure => simp [intOf]; omega
        · have hie : i = Ls.length := by omega
          have HZ : Hid (cs = cats Ls) := Lib.hid (by rw [hS.out, hie, List.take_length])
          clear hS hie
          go_wp2
          go_returns
          exact ⟨_, rfl, by rw [← HZ.out]; exact ⟨HW.out, HE.out⟩⟩
end Go.Proofs.YtgbihpfpiaacfaaGreatDoor.Rc

