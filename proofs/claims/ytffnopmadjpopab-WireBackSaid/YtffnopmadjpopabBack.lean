/- WireBack: what was written is read as it was, whatever stands behind. -/
import Derived.Test.YtffnopmadjpopabRegAny
set_option linter.unusedVariables false
namespace Go.Proofs.Ytffnopmadjpopab
open Go.RowKit

def cat (l : List Pt) : List Int := l.flatMap Pt.b
theorem cat_cons (p : Pt) (l : List Pt) : cat (p :: l) = p.b ++ cat l := List.flatMap_cons
theorem cat_snoc (l : List Pt) (p : Pt) : cat (l ++ [p]) = cat l ++ p.b := by unfold cat; rw [List.flatMap_append]; simp
def Pt.good (p : Pt) : Prop := p.s.size ≤ 300 ∧ 0 ≤ p.n ∧ 0 ≤ p.x ∧ 0 ≤ p.y
theorem take_snoc' {α : Type} (l : List α) (i : Nat) (p : α) (h : l[i]? = some p) : l.take (i + 1) = l.take i ++ [p] := by
  obtain ⟨hl, he⟩ := List.getElem?_eq_some_iff.1 h
  rw [List.take_succ_eq_append_getElem hl, he]

theorem pb_byte (p : Pt) : Byt p.b := by
  unfold Pt.b pb
  split
  · exact nb_byte _
  · split
    · unfold fb; split <;> (intro x hx; simp at hx; omega)
    · split
      · unfold tb
        intro x hx
        rcases List.mem_append.1 hx with h | h
        · exact nb_byte _ x h
        · unfold strI at h
          obtain ⟨c, _, rfl⟩ := List.mem_map.1 h
          have : c.toNat < 256 := UInt8.toNat_lt c
          omega
      · split
        · unfold stb
          intro x hx
          rcases List.mem_append.1 hx with h | h
          · exact nb_byte _ x h
          · exact nb_byte _ x h
        · exact Byt.nil
theorem cat_byte (l : List Pt) : Byt (cat l) := by
  intro x hx
  obtain ⟨p, _, h⟩ := List.mem_flatMap.1 hx
  exact pb_byte p x h
theorem byt_append {a b : List Int} (h : Byt a) (k : Byt b) : Byt (a ++ b) := fun x hx => (List.mem_append.1 hx).elim (h x) (k x)

/-- At the head of a round of the second loop. -/
structure BI (w wr : World) (M r : Nat) (s : St) : Prop where
  rd : RdI wr w.heap.size M r s
  below : Below w.heap.size w wr

set_option maxRecDepth 100000 in
set_option maxHeartbeats 400000 in
theorem back_far (w : World) (ao : Option Addr) (len cap : Nat) (v0 : Value) (h : 200 < len) (hm : len ≤ 9223372036854775807) :
    Calls Try.prog 4 #[v0, .slice ao len cap] w fun e w' => e = .returned (.bool true) ∧ Below w.heap.size w w' := by
  go_enter Try.func4, Try.ntmps4
  go_wp2_with fail
  refine (awake_any w).mono ?_
  rintro e w1 ⟨rfl, hb⟩
  go_wp2
  go_returns
  exact ⟨rfl, hb⟩

/-- What the first loop leaves. -/
structure FI (w wr : World) (v : Value) (L : List Int) : Prop where
  wt : WrI wr w.heap.size w.heap.size v L
  below : Below w.heap.size w wr

set_option maxRecDepth 100000 in
set_option maxHeartbeats 16000000 in
theorem back_near (w : World) (v0 v1 : Value) (ps : List Pt) (more : List Int) (h : Holds5 w v0 ps) (h1 : Lies w v1 more) (hb1 : Byt more) (hl1 : more.length ≤ 200) :
    Calls Try.prog 4 #[v0, v1] w fun e w' => e = .returned (.bool true) ∧ Below w.heap.size w w' := by
  obtain ⟨i0, hi, hz0, hz1, hz2⟩ := info_parts Try.info5
  obtain ⟨ao, cap, rfl, hlen, hok, hcells⟩ := h
  have HC := Lib.hid hcells
  have HOK := Lib.hid hok
  have HF0 := Lib.hid (FI.mk (wr_start w) ((Below.refl w.heap.size w).alloc (Nat.le_refl _) (.cells #[.slice none 0 0] 26)))
  have H1 := Lib.hid h1
  have HB1 := Lib.hid hb1
  obtain ⟨a1, cap1, rfl, hcap1, hn1, _⟩ := h1
  clear hcells hok hb1 hn1
  go_enter Try.func4, Try.ntmps4
  go_wp2
  go_loopw [6] (fun iv wr => ∃ (i : Nat) (v : Value), iv = .int .i64 i ∧ i ≤ ps.length ∧ i ≤ 40 ∧ FI w wr v (cat (ps.take i)) ∧ Hid ((cat (ps.take i)).length ≤ 309 * i ∧ ∀ p ∈ ps.take i, p.good)) (fun iv _ => 40 - (intOf iv).toNat)
  case atStart => exact ⟨0, _, rfl, by omega, by omega, HF0.out, by simp [cat], fun p hp => by simp at hp⟩
  case round =>
    obtain ⟨i, v, rfl, hil, hi40, hF, hG⟩ := hrel
    have HF := Lib.hid hF
    clear hF
    by_cases hlt : i < ps.length
    · by_cases hlt4 : i < 40
      · obtain ⟨p, hp⟩ : ∃ p, ps[i]? = some p := ⟨_, List.getElem?_eq_getElem hlt⟩
        have hpk := HOK.out p (List.mem_of_getElem? hp)
        obtain ⟨g, off, rfl, hg, hcl⟩ := HC.out (by intro e; rw [e] at hlt; simp at hlt)
        obtain ⟨c0, c1, c2, c3, c4⟩ := hcl i p hp
        have d0 := (HF.out.below.cell (p := ⟨g, off + i * 5, none⟩) hg).trans c0
        have d1 := (HF.out.below.cell (p := ⟨g, off + i * 5 + 1, none⟩) hg).trans c1
        have d2 := (HF.out.below.cell (p := ⟨g, off + i * 5 + 2, none⟩) hg).trans c2
        have d3 := (HF.out.below.cell (p := ⟨g, off + i * 5 + 3, none⟩) hg).trans c3
        have d4 := (HF.out.below.cell (p := ⟨g, off + i * 5 + 4, none⟩) hg).trans c4
        have htk := take_snoc' ps i p hp
        have HP := Lib.hid (And.intro hp htk)
        have HA := Lib.hid (awake_any wr)
        clear hcl hp htk c0 c1 c2 c3 c4
        by_cases hs : p.s.size ≤ 300
        · by_cases hn : 0 ≤ p.n
          · by_cases hx : 0 ≤ p.x
            · by_cases hy : 0 ≤ p.y
              · have hLl : (cat (ps.take i)).length ≤ 12360 := by have := hG.out.1; omega
                have C1 := Lib.hid (writes_any wr w.heap.size w.heap.size v (cat (ps.take i)) p.k p.n p.s p.x p.y hpk.1 hpk.2.1 hpk.2.2.1 (by omega) HF.out.wt HF.out.below.size (by omega))
                have hpl : (pb p.k p.n p.s p.x p.y).length ≤ 309 := pb_len p hpk hs
                have hgd : p.good := ⟨hs, hn, hx, hy⟩
                have HGD := Lib.hid (And.intro hgd hpl)
                clear hgd hpl
                unfold part at C1
                go_wp2_with fail
                refine C1.out.mono ?_
                rintro e w2 ⟨x, rfl, ⟨v', hW, hE⟩, hx2⟩
                have K := Lib.hid (And.intro hW hE)
                clear hW hE hx2
                go_wp2
                go_roundw
                case rel =>
                  refine ⟨i + 1, v', by go_num, by omega, by omega, ?_, ?_⟩
                  · rw [HP.out.2, cat_snoc]
                    exact ⟨K.out.1, HF.out.below.trans (K.out.2.below HF.out.wt HF.out.below.size)⟩
                  · rw [HP.out.2, cat_snoc]
                    refine ⟨by rw [List.length_append]; have := hG.out.1; have := HGD.out.2; show _ + (pb p.k p.n p.s p.x p.y).length ≤ _; omega, fun q hq => ?_⟩
                    rcases List.mem_append.1 hq with h | h
                    · exact hG.out.2 q h
                    · simp at h; rw [h]; exact HGD.out.1
                case measure => simp [intOf]; omega
              · have hy' : p.y < 0 := by omega
                clear hy
                go_wp2_with fail
                refine HA.out.mono ?_
                rintro e w2 ⟨rfl, hb⟩
                go_wp2
                go_returns
                exact ⟨rfl, HF.out.below.trans (hb.mono HF.out.below.size)⟩
            · have hx' : p.x < 0 := by omega
              clear hx
              go_wp2_with fail
              refine HA.out.mono ?_
              rintro e w2 ⟨rfl, hb⟩
              go_wp2
              go_returns
              exact ⟨rfl, HF.out.below.trans (hb.mono HF.out.below.size)⟩
          · have hn' : p.n < 0 := by omega
            clear hn
            go_wp2_with fail
            refine HA.out.mono ?_
            rintro e w2 ⟨rfl, hb⟩
            go_wp2
            go_returns
            exact ⟨rfl, HF.out.below.trans (hb.mono HF.out.below.size)⟩
        · have hs' : 300 < p.s.size := by omega
          clear hs
          go_wp2_with fail
          refine HA.out.mono ?_
          rintro e w2 ⟨rfl, hb⟩
          go_wp2
          go_returns
          exact ⟨rfl, HF.out.below.trans (hb.mono HF.out.below.size)⟩
      · have hi0 : i = 40 := by omega
        have HI0 := Lib.hid hi0
        clear hi0
        have hLl : (cat (ps.take i)).length ≤ 12360 := by have := hG.out.1; omega
        have hLB := cat_byte (ps.take i)
        have HGO := Lib.hid hG.out.2
        have HLB := Lib.hid (byt_append hLB HB1.out)
        have htl : (ps.take i).length = i := by rw [List.length_take]; omega
        generalize hT : ps.take i = T at *
        have HT := Lib.hid (And.intro hT htl)
        clear hT htl hLB hG
        go_wp2_with fail
        refine (wbytes_any wr w.heap.size w.heap.size v (cat T) HF.out.wt (by omega)).mono ?_
        rintro e w2 ⟨x, rfl, ho⟩
        have B2 := Lib.hid (HF.out.below.trans (ho.2.mono HF.out.below.size))
        have SX := Lib.hid (own_lies ho.1)
        have hzw := B2.out.size
        obtain ⟨xo, xc, rfl⟩ := own_shape ho.1
        clear ho
        generalize hcT : cat T = L at *
        have HCT := Lib.hid hcT
        clear hcT
        go_wp2_with (first | (at_builtin; refine wpList_append_src_own rfl (.tmp 67) (.tmp 69) 24 24 rfl w2.heap.size 5 i0 (.int .u8 0) 1 1 Try.underlying24 hi hz0 hz1 hz2 rfl (by decide) _ 0 [] rfl (World.ownsRow_nil _ _ _ _) _ _ _ rfl SX.out.src (by unfold maxLen; omega) (by omega) (Nat.le_refl _) ?_; intro u1 w3 hown hgr hsp; have hb3 := (Below.refl w2.heap.size w2).grown hgr (Nat.le_refl _) (fun k hk => by simp [Act.eval, Value.ownBlock] at hk); rw [Nat.zero_add, List.nil_append] at hown; have S2 := (H1.out.later (B2.out.trans (hb3.mono hzw))).src; have A3 := Lib.hid (And.intro hown (And.intro hb3 S2)); clear hown hgr hsp hb3 S2) | (at_builtin; refine wpList_append_src_own rfl (.tmp 70) (.tmp 71) 24 24 rfl w2.heap.size 5 i0 (.int .u8 0) 1 1 Try.underlying24 hi hz0 hz1 (by assumption) rfl (by decide) _ _ _ rfl A3.out.1 _ _ _ rfl A3.out.2.2 (by unfold maxLen; omega) (by omega) (A3.out.2.1.size) ?_; intro u2 w4 hown hgr hsp; have hb4 := A3.out.2.1.grown hgr A3.out.2.1.size (fun k hk => (A3.out.1.lt k hk).1); have A4 := Lib.hid (And.intro hown hb4); clear hown hgr hsp hb4))
        have hown : w4.ownsRow w2.heap.size 5 1 u2 (L ++ more).length (u8s (L ++ more)) := by rw [List.length_append, u8s_append]; exact A4.out.1
        have B4 := Lib.hid (B2.out.trans (A4.out.2.mono hzw))
        refine (open_any w4 u2 (L ++ more) (own_lies hown) HLB.out (by rw [List.length_append]; omega)).mono ?_
        rintro e w5 ⟨r, M, rfl, hR, hb5⟩
        have HBI := Lib.hid (BI.mk (hR.lower B4.out.size) (B4.out.trans (hb5.mono B4.out.size)))
        clear hR hb5 hown
        go_wp2
        go_loopw [9] (fun jv wr => ∃ (j : Nat), jv = .int .i64 j ∧ j ≤ i ∧ BI w wr M r ⟨cat (T.drop j) ++ more, 0⟩) (fun jv _ => i - (intOf jv).toNat)
        case atStart => exact ⟨0, rfl, by omega, by rw [List.drop_zero, HCT.out]; exact HBI.out⟩
        case round =>
          obtain ⟨j, rfl, hji, hI⟩ := hrel
          have HI := Lib.hid hI
          clear hI
          by_cases hlt : j < i
          · have hj1 : j < ps.length := by omega
            have hj2 : j < 40 := by omega
            obtain ⟨p, hp⟩ : ∃ p, ps[j]? = some p := ⟨_, List.getElem?_eq_getElem hj1⟩
            have hpT : T[j]? = some p := by rw [← HT.out.1, List.getElem?_take, if_pos hlt]; exact hp
            have hpk := HOK.out p (List.mem_of_getElem? hp)
            have hgd := HGO.out p (List.mem_of_getElem? hpT)
            obtain ⟨g, off, rfl, hg, hcl⟩ := HC.out (by intro e; rw [e] at hj1; simp at hj1)
            obtain ⟨c0, c1, c2, c3, c4⟩ := hcl j p hp
            have d0 := (HI.out.below.cell (p := ⟨g, off + j * 5, none⟩) hg).trans c0
            have d1 := (HI.out.below.cell (p := ⟨g, off + j * 5 + 1, none⟩) hg).trans c1
            have d2 := (HI.out.below.cell (p := ⟨g, off + j * 5 + 2, none⟩) hg).trans c2
            have d3 := (HI.out.below.cell (p := ⟨g, off + j * 5 + 3, none⟩) hg).trans c3
            have d4 := (HI.out.below.cell (p := ⟨g, off + j * 5 + 4, none⟩) hg).trans c4
            have hst : cat (T.drop j) ++ more = p.b ++ (cat (T.drop (j + 1)) ++ more) := by
              obtain ⟨hl, he⟩ := List.getElem?_eq_some_iff.1 hpT
              rw [List.drop_eq_getElem_cons hl, he, cat_cons, List.append_assoc]
            have hRD := HI.out.rd
            rw [hst] at hRD
            have hQ := RQ.made hRD [.int .i64 p.k, .int .i64 p.n, .string p.s, .int .i64 p.x, .int .i64 p.y].toArray
            have HQ := Lib.hid hQ
            have hWB := Lib.hid (HI.out.below.trans (((Below.refl wr.heap.size wr).alloc (Nat.le_refl _) (.cells [.int .i64 p.k, .int .i64 p.n, .string p.s, .int .i64 p.x, .int .i64 p.y].toArray 30)).mono HI.out.below.size))
            have hszw := hWB.out.size
            clear hcl hp hpT c0 c1 c2 c3 c4 hst hRD hQ
            generalize hrest : cat (T.drop (j + 1)) ++ more = rest at *
            have HRE := Lib.hid hrest
            clear hrest
            obtain ⟨k, n, s, x, y⟩ := p
            simp only at *
            have HPK := Lib.hid (And.intro hpk hgd)
            clear hpk hgd
            go_wp2_with fail
            clear d0 d1 d2 d3 d4
            refine reg_any (fun _ _ _ _ _ h => h) _ wr.heap.size r w.heap.size M k n s x y rest HQ.out hszw HPK.out.2.2.1 HPK.out.1.1 HPK.out.2.1 HPK.out.2.2.2.1 HPK.out.1.2.1 HPK.out.2.2.2.2 HPK.out.1.2.2.1 (fun w6 v89 v90 v91 v92 v93 v94 v95 v96 v97 v98 v99 v100 v101 v102 v103 v104 v105 v106 v107 v108 v109 v110 v111 v112 v113 v114 v115 v116 v117 v118 v119 v120 v121 v122 v123 v124 v125 v126 v127 v128 v129 v130 v131 v132 v133 v134 v135 v136 v137 hrd hkr => ?_)
            have HN := Lib.hid (BI.mk hrd (hWB.out.trans (hkr.below (hrd.ge) hszw)))
            clear hrd hkr
            go_wp2
            go_roundw
            case rel => exact ⟨j + 1, by go_num, by omega, by rw [HRE.out]; exact HN.out⟩
            case measure => simp [intOf]; omega
          · have hje : j = i := by omega
            have hI := HI.out
            have ed : cat (T.drop j) ++ more = more := by rw [List.drop_of_length_le (by rw [HT.out.2]; omega)]; rfl
            rw [ed] at hI
            have HI2 := Lib.hid hI
            have LF := Lib.hid (left_any wr w.heap.size M r _ hI.rd)
            have BD := Lib.hid (bad_any wr w.heap.size M r _ hI.rd)
            have AW := Lib.hid (awake_any wr)
            have tl := beqb_ (more.length : Int) (more.length : Int) rfl
            clear hI ed
            have hx1 : j < ps.length := by have := HI0.out; omega
            have hx2 : ¬ j < 40 := by have := HI0.out; omega
            go_wp2_with fail
            refine LF.out.mono ?_
            rintro e w7 ⟨rfl, rfl⟩
            go_wp2_with fail
            refine BD.out.mono ?_
            rintro e w7 ⟨rfl, rfl⟩
            go_wp2_with fail
            refine AW.out.mono ?_
            rintro e w8 ⟨rfl, hb⟩
            have HZ := Lib.hid (HI2.out.below.trans (hb.mono HI2.out.below.size))
            clear hb
            go_wp2
            go_returns
            exact ⟨rfl, HZ.out⟩
    · have hi0 : i = ps.length := by omega
      have HI0 := Lib.hid hi0
      clear hi0
      have hLl : (cat (ps.take i)).length ≤ 12360 := by have := hG.out.1; omega
      have hLB := cat_byte (ps.take i)
      have HGO := Lib.hid hG.out.2
      have HLB := Lib.hid (byt_append hLB HB1.out)
      have htl : (ps.take i).length = i := by rw [List.length_take]; omega
      generalize hT : ps.take i = T at *
      have HT := Lib.hid (And.intro hT htl)
      clear hT htl hLB hG
      go_wp2_with fail
      refine (wbytes_any wr w.heap.size w.heap.size v (cat T) HF.out.wt (by omega)).mono ?_
      rintro e w2 ⟨x, rfl, ho⟩
      have B2 := Lib.hid (HF.out.below.trans (ho.2.mono HF.out.below.size))
      have SX := Lib.hid (own_lies ho.1)
      have hzw := B2.out.size
      obtain ⟨xo, xc, rfl⟩ := own_shape ho.1
      clear ho
      generalize hcT : cat T = L at *
      have HCT := Lib.hid hcT
      clear hcT
      go_wp2_with (first | (at_builtin; refine wpList_append_src_own rfl (.tmp 67) (.tmp 69) 24 24 rfl w2.heap.size 5 i0 (.int .u8 0) 1 1 Try.underlying24 hi hz0 hz1 hz2 rfl (by decide) _ 0 [] rfl (World.ownsRow_nil _ _ _ _) _ _ _ rfl SX.out.src (by unfold maxLen; omega) (by omega) (Nat.le_refl _) ?_; intro u1 w3 hown hgr hsp; have hb3 := (Below.refl w2.heap.size w2).grown hgr (Nat.le_refl _) (fun k hk => by simp [Act.eval, Value.ownBlock] at hk); rw [Nat.zero_add, List.nil_append] at hown; have S2 := (H1.out.later (B2.out.trans (hb3.mono hzw))).src; have A3 := Lib.hid (And.intro hown (And.intro hb3 S2)); clear hown hgr hsp hb3 S2) | (at_builtin; refine wpList_append_src_own rfl (.tmp 70) (.tmp 71) 24 24 rfl w2.heap.size 5 i0 (.int .u8 0) 1 1 Try.underlying24 hi hz0 hz1 (by assumption) rfl (by decide) _ _ _ rfl A3.out.1 _ _ _ rfl A3.out.2.2 (by unfold maxLen; omega) (by omega) (A3.out.2.1.size) ?_; intro u2 w4 hown hgr hsp; have hb4 := A3.out.2.1.grown hgr A3.out.2.1.size (fun k hk => (A3.out.1.lt k hk).1); have A4 := Lib.hid (And.intro hown hb4); clear hown hgr hsp hb4))
      have hown : w4.ownsRow w2.heap.size 5 1 u2 (L ++ more).length (u8s (L ++ more)) := by rw [List.length_append, u8s_append]; exact A4.out.1
      have B4 := Lib.hid (B2.out.trans (A4.out.2.mono hzw))
      refine (open_any w4 u2 (L ++ more) (own_lies hown) HLB.out (by rw [List.length_append]; omega)).mono ?_
      rintro e w5 ⟨r, M, rfl, hR, hb5⟩
      have HBI := Lib.hid (BI.mk (hR.lower B4.out.size) (B4.out.trans (hb5.mono B4.out.size)))
      clear hR hb5 hown
      go_wp2
      go_loopw [9] (fun jv wr => ∃ (j : Nat), jv = .int .i64 j ∧ j ≤ i ∧ BI w wr M r ⟨cat (T.drop j) ++ more, 0⟩) (fun jv _ => i - (intOf jv).toNat)
      case atStart => exact ⟨0, rfl, by omega, by rw [List.drop_zero, HCT.out]; exact HBI.out⟩
      case round =>
        obtain ⟨j, rfl, hji, hI⟩ := hrel
        have HI := Lib.hid hI
        clear hI
        by_cases hlt : j < i
        · have hj1 : j < ps.length := by omega
          have hj2 : j < 40 := by omega
          obtain ⟨p, hp⟩ : ∃ p, ps[j]? = some p := ⟨_, List.getElem?_eq_getElem hj1⟩
          have hpT : T[j]? = some p := by rw [← HT.out.1, List.getElem?_take, if_pos hlt]; exact hp
          have hpk := HOK.out p (List.mem_of_getElem? hp)
          have hgd := HGO.out p (List.mem_of_getElem? hpT)
          obtain ⟨g, off, rfl, hg, hcl⟩ := HC.out (by intro e; rw [e] at hj1; simp at hj1)
          obtain ⟨c0, c1, c2, c3, c4⟩ := hcl j p hp
          have d0 := (HI.out.below.cell (p := ⟨g, off + j * 5, none⟩) hg).trans c0
          have d1 := (HI.out.below.cell (p := ⟨g, off + j * 5 + 1, none⟩) hg).trans c1
          have d2 := (HI.out.below.cell (p := ⟨g, off + j * 5 + 2, none⟩) hg).trans c2
          have d3 := (HI.out.below.cell (p := ⟨g, off + j * 5 + 3, none⟩) hg).trans c3
          have d4 := (HI.out.below.cell (p := ⟨g, off + j * 5 + 4, none⟩) hg).trans c4
          have hst : cat (T.drop j) ++ more = p.b ++ (cat (T.drop (j + 1)) ++ more) := by
            obtain ⟨hl, he⟩ := List.getElem?_eq_some_iff.1 hpT
            rw [List.drop_eq_getElem_cons hl, he, cat_cons, List.append_assoc]
          have hRD := HI.out.rd
          rw [hst] at hRD
          have hQ := RQ.made hRD [.int .i64 p.k, .int .i64 p.n, .string p.s, .int .i64 p.x, .int .i64 p.y].toArray
          have HQ := Lib.hid hQ
          have hWB := Lib.hid (HI.out.below.trans (((Below.refl wr.heap.size wr).alloc (Nat.le_refl _) (.cells [.int .i64 p.k, .int .i64 p.n, .string p.s, .int .i64 p.x, .int .i64 p.y].toArray 30)).mono HI.out.below.size))
          have hszw := hWB.out.size
          clear hcl hp hpT c0 c1 c2 c3 c4 hst hRD hQ
          generalize hrest : cat (T.drop (j + 1)) ++ more = rest at *
          have HRE := Lib.hid hrest
          clear hrest
          obtain ⟨k, n, s, x, y⟩ := p
          simp only at *
          have HPK := Lib.hid (And.intro hpk hgd)
          clear hpk hgd
          go_wp2_with fail
          clear d0 d1 d2 d3 d4
          refine reg_any (fun _ _ _ _ _ h => h) _ wr.heap.size r w.heap.size M k n s x y rest HQ.out hszw HPK.out.2.2.1 HPK.out.1.1 HPK.out.2.1 HPK.out.2.2.2.1 HPK.out.1.2.1 HPK.out.2.2.2.2 HPK.out.1.2.2.1 (fun w6 v89 v90 v91 v92 v93 v94 v95 v96 v97 v98 v99 v100 v101 v102 v103 v104 v105 v106 v107 v108 v109 v110 v111 v112 v113 v114 v115 v116 v117 v118 v119 v120 v121 v122 v123 v124 v125 v126 v127 v128 v129 v130 v131 v132 v133 v134 v135 v136 v137 hrd hkr => ?_)
          have HN := Lib.hid (BI.mk hrd (hWB.out.trans (hkr.below (hrd.ge) hszw)))
          clear hrd hkr
          go_wp2
          go_roundw
          case rel => exact ⟨j + 1, by go_num, by omega, by rw [HRE.out]; exact HN.out⟩
          case measure => simp [intOf]; omega
        · have hje : j = i := by omega
          have hI := HI.out
          have ed : cat (T.drop j) ++ more = more := by rw [List.drop_of_length_le (by rw [HT.out.2]; omega)]; rfl
          rw [ed] at hI
          have HI2 := Lib.hid hI
          have LF := Lib.hid (left_any wr w.heap.size M r _ hI.rd)
          have BD := Lib.hid (bad_any wr w.heap.size M r _ hI.rd)
          have AW := Lib.hid (awake_any wr)
          have tl := beqb_ (more.length : Int) (more.length : Int) rfl
          clear hI ed
          have hx1 : ¬ j < ps.length := by have := HI0.out; omega
          go_wp2_with fail
          refine LF.out.mono ?_
          rintro e w7 ⟨rfl, rfl⟩
          go_wp2_with fail
          refine BD.out.mono ?_
          rintro e w7 ⟨rfl, rfl⟩
          go_wp2_with fail
          refine AW.out.mono ?_
          rintro e w8 ⟨rfl, hb⟩
          have HZ := Lib.hid (HI2.out.below.trans (hb.mono HI2.out.below.size))
          clear hb
          go_wp2
          go_returns
          exact ⟨rfl, HZ.out⟩
end Go.Proofs.Ytffnopmadjpopab
