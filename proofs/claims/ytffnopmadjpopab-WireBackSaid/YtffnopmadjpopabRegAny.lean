/- The region of WireBack's second loop at any part: what was written is read, and no more. Made by genreg.py. -/
import Derived.Test.YtffnopmadjpopabReg17
set_option linter.unusedVariables false
namespace Go.Proofs.Ytffnopmadjpopab
open Go.RowKit

theorem RdI.lower {w : World} {B B' M r : Nat} {s : St} (h : RdI w B M r s) (hB : B' ≤ B) : RdI w B' M r s := ⟨Nat.le_trans hB h.ge, h.blk, h.byt, h.len, h.top⟩

/-- A reader, and a block of parts elsewhere. -/
structure RQ (W : World) (B M r q : Nat) (s : St) (row : Array Value) : Prop where
  rd : RdI W B M r s
  blk : W.heap[q]? = some (.cells row 30 (0, 0))
  hq : q ≠ r
theorem RQ.made {wr : World} {B M r : Nat} {s : St} (h : RdI wr B M r s) (row : Array Value) : RQ (wr.alloc (.cells row 30)) B M r wr.heap.size s row := by
  have hr : r < wr.heap.size := by obtain ⟨_, hb, _⟩ := h.blk; exact lt_of_block hb
  exact ⟨h.old ((Below.refl _ _).alloc (Nat.le_refl _) _), heap_alloc_new wr _, by omega⟩
theorem RQ.drew {W : World} {B M r q : Nat} {s : St} {row : Array Value} (h : RQ W B M r q s row) : RQ W.drew B M r q s row := ⟨h.rd.old (Below.refl _ _).drew, h.blk, h.hq⟩
theorem RQ.read {W W1 : World} {B M r q : Nat} {s t : St} {row : Array Value} (h : RQ W B M r q s row) (k : RdOut W W1 B M r t) : RQ W1 B M r q t row :=
  ⟨k.1, (k.2.block q (lt_of_block h.blk) h.hq).trans h.blk, h.hq⟩
theorem tln_self (s : ByteArray) : (s.toList != s.toList) = false := by simp

set_option maxRecDepth 100000 in
set_option maxHeartbeats 4000000 in
theorem reg_any {Q : Exit → Act → World → Prop} (hP : ∀ (c : _) (a : Act) (d : Tmp) (v : Value) (w : World), Q (.panic c) (a.put (some d) v) w → Q (.panic c) a w) (W : World) (q r B M : Nat) (k n : Int) (s : ByteArray) (x y : Int) (rest : List Int) {u0 u1 u2 u3 u4 u5 u6 u7 u9 u11 u12 u13 u14 u15 u16 u17 u18 u19 u20 u21 u22 u23 u24 u25 u26 u27 u28 u29 u30 u31 u32 u33 u34 u35 u36 u37 u38 u39 u40 u41 u42 u43 u44 u45 u46 u47 u48 u49 u50 u51 u52 u53 u54 u55 u56 u57 u58 u59 u60 u61 u62 u63 u64 u65 u66 u67 u68 u69 u70 u71 u72 u73 u74 u75 u76 u77 u78 u79 u80 u81 u82 u83 u84 u85 u86 u87 u88 u89 u90 u91 u92 u93 u94 u95 u96 u97 u98 u99 u100 u101 u102 u103 u104 u105 u106 u107 u108 u109 u110 u111 u112 u113 u114 u115 u116 u117 u118 u119 u120 u121 u122 u123 u124 u125 u126 u127 u128 u129 u130 u131 u132 u133 u134 u135 u136 u137 u138 u139 u140 u141 u142 u143 u144 u145 u146 u147 u148 u149 u150 u151 : Value}
    (hq : RQ W B M r q ⟨pb k n s x y ++ rest, 0⟩ #[.int .i64 k, .int .i64 n, .string s, .int .i64 x, .int .i64 y]) (hB : B ≤ W.heap.size) (hn : 0 ≤ n) (hn2 : n ≤ 9223372036854775807) (hs : s.size ≤ 300) (hx : 0 ≤ x) (hx2 : x ≤ 9223372036854775807) (hy : 0 ≤ y) (hy2 : y ≤ 9223372036854775807)
    (fin : ∀ (w' : World) (v89 v90 v91 v92 v93 v94 v95 v96 v97 v98 v99 v100 v101 v102 v103 v104 v105 v106 v107 v108 v109 v110 v111 v112 v113 v114 v115 v116 v117 v118 v119 v120 v121 v122 v123 v124 v125 v126 v127 v128 v129 v130 v131 v132 v133 v134 v135 v136 v137 : Value), RdI w' B M r ⟨rest, 0⟩ → Kr W w' r → Q .normal { tmps := #[u0, u1, u2, u3, u4, u5, u6, u7, .pointer (some ⟨r, 0, none⟩), u9, .pointer (some ⟨q, 0, none⟩), u11, u12, u13, u14, u15, u16, u17, u18, u19, u20, u21, u22, u23, u24, u25, u26, u27, u28, u29, u30, u31, u32, u33, u34, u35, u36, u37, u38, u39, u40, u41, u42, u43, u44, u45, u46, u47, u48, u49, u50, u51, u52, u53, u54, u55, u56, u57, u58, u59, u60, u61, u62, u63, u64, u65, u66, u67, u68, u69, u70, u71, u72, u73, u74, u75, u76, u77, u78, u79, u80, u81, u82, u83, u84, u85, u86, u87, u88, v89, v90, v91, v92, v93, v94, v95, v96, v97, v98, v99, v100, v101, v102, v103, v104, v105, v106, v107, v108, v109, v110, v111, v112, v113, v114, v115, v116, v117, v118, v119, v120, v121, v122, v123, v124, v125, v126, v127, v128, v129, v130, v131, v132, v133, v134, v135, v136, v137, .bool false, u139, u140, u141, u142, u143, u144, u145, u146, u147, u148, u149, u150, u151], defers := [] } w') :
    Code.wp Try.prog (Code.region 17 ops17 true) Q { tmps := #[u0, u1, u2, u3, u4, u5, u6, u7, .pointer (some ⟨r, 0, none⟩), u9, .pointer (some ⟨q, 0, none⟩), u11, u12, u13, u14, u15, u16, u17, u18, u19, u20, u21, u22, u23, u24, u25, u26, u27, u28, u29, u30, u31, u32, u33, u34, u35, u36, u37, u38, u39, u40, u41, u42, u43, u44, u45, u46, u47, u48, u49, u50, u51, u52, u53, u54, u55, u56, u57, u58, u59, u60, u61, u62, u63, u64, u65, u66, u67, u68, u69, u70, u71, u72, u73, u74, u75, u76, u77, u78, u79, u80, u81, u82, u83, u84, u85, u86, u87, u88, u89, u90, u91, u92, u93, u94, u95, u96, u97, u98, u99, u100, u101, u102, u103, u104, u105, u106, u107, u108, u109, u110, u111, u112, u113, u114, u115, u116, u117, u118, u119, u120, u121, u122, u123, u124, u125, u126, u127, u128, u129, u130, u131, u132, u133, u134, u135, u136, u137, u138, u139, u140, u141, u142, u143, u144, u145, u146, u147, u148, u149, u150, u151], defers := [] } W := by
  have hd := hq.drew
  have hS : Box q k n s x y W.drew := five_cells hd.blk
  have hdk : Kr W W.drew r := Kr.ofBelow r (Below.refl _ _).drew
  by_cases k0 : k = 0
  · subst k0
    have E : (⟨pb 0 n s x y ++ rest, 0⟩ : St).num = (n, ⟨rest, 0⟩) := by
      show (⟨nb n.toNat ++ rest, 0⟩ : St).num = _
      rw [St.num_nb n.toNat rest (by omega)]
      congr 1; omega
    have C := num_any W.drew B M r _ hd.rd hB
    rw [E] at C
    exact reg_k0 hP W q r n s x y (eqb_ n n rfl) (fun w' => RdOut W.drew w' B M r ⟨rest, 0⟩) C (fun w' h => five_cells (hd.read h).blk) hS (fun w' v89 v90 v91 v92 v93 v94 v95 v96 v97 v98 v99 v100 v101 v102 v103 v104 v105 v106 v107 v108 v109 v110 v111 v112 v113 v114 v115 v116 v117 v118 v119 v120 v121 v122 v123 v124 v125 v126 v127 v128 v129 v130 v131 v132 v133 v134 v135 v136 v137 h => fin w' v89 v90 v91 v92 v93 v94 v95 v96 v97 v98 v99 v100 v101 v102 v103 v104 v105 v106 v107 v108 v109 v110 v111 v112 v113 v114 v115 v116 v117 v118 v119 v120 v121 v122 v123 v124 v125 v126 v127 v128 v129 v130 v131 v132 v133 v134 v135 v136 v137 h.1 (hdk.trans h.2))
  · by_cases k1 : k = 1
    · subst k1
      have E : (⟨pb 1 n s x y ++ rest, 0⟩ : St).flag = ((n == 1), ⟨rest, 0⟩) := St.flag_fb (n == 1) rest
      have C := flag_any W.drew B M r _ hd.rd hB
      rw [E] at C
      exact reg_k1 hP W q r n s x y (n == 1) rfl (by cases (n == 1) <;> rfl) (fun w' => RdOut W.drew w' B M r ⟨rest, 0⟩) C (fun w' h => five_cells (hd.read h).blk) hS (fun w' v89 v90 v91 v92 v93 v94 v95 v96 v97 v98 v99 v100 v101 v102 v103 v104 v105 v106 v107 v108 v109 v110 v111 v112 v113 v114 v115 v116 v117 v118 v119 v120 v121 v122 v123 v124 v125 v126 v127 v128 v129 v130 v131 v132 v133 v134 v135 v136 v137 h => fin w' v89 v90 v91 v92 v93 v94 v95 v96 v97 v98 v99 v100 v101 v102 v103 v104 v105 v106 v107 v108 v109 v110 v111 v112 v113 v114 v115 v116 v117 v118 v119 v120 v121 v122 v123 v124 v125 v126 v127 v128 v129 v130 v131 v132 v133 v134 v135 v136 v137 h.1 (hdk.trans h.2))
    · by_cases k2 : k = 2
      · subst k2
        have E : (⟨pb 2 n s x y ++ rest, 0⟩ : St).text s.size = (s, ⟨rest, 0⟩) := St.text_tb s rest (by omega)
        have C := text_any W.drew B M r _ s.size (by omega) hd.rd hB
        rw [E] at C
        exact reg_k2 hP W q r n s x y (tln_self s) (fun w' => RdOut W.drew w' B M r ⟨rest, 0⟩) C (fun w' h => five_cells (hd.read h).blk) hS (fun w' v89 v90 v91 v92 v93 v94 v95 v96 v97 v98 v99 v100 v101 v102 v103 v104 v105 v106 v107 v108 v109 v110 v111 v112 v113 v114 v115 v116 v117 v118 v119 v120 v121 v122 v123 v124 v125 v126 v127 v128 v129 v130 v131 v132 v133 v134 v135 v136 v137 h => fin w' v89 v90 v91 v92 v93 v94 v95 v96 v97 v98 v99 v100 v101 v102 v103 v104 v105 v106 v107 v108 v109 v110 v111 v112 v113 v114 v115 v116 v117 v118 v119 v120 v121 v122 v123 v124 v125 v126 v127 v128 v129 v130 v131 v132 v133 v134 v135 v136 v137 h.1 (hdk.trans h.2))
      · by_cases k3 : k = 3
        · subst k3
          have E : (⟨pb 3 n s x y ++ rest, 0⟩ : St).stamp = ((x, y), ⟨rest, 0⟩) := St.stamp_stb x y rest hx hx2 hy hy2
          have C := stamp_any W.drew B M r _ hd.rd hB
          rw [E] at C
          exact reg_k3 hP W q r n s x y (eqb_ x x rfl) (eqb_ y y rfl) (beqb_ x x rfl) (beqb_ y y rfl) (fun w' => RdOut W.drew w' B M r ⟨rest, 0⟩) C (fun w' h => five_cells (hd.read h).blk) hS (fun w' v89 v90 v91 v92 v93 v94 v95 v96 v97 v98 v99 v100 v101 v102 v103 v104 v105 v106 v107 v108 v109 v110 v111 v112 v113 v114 v115 v116 v117 v118 v119 v120 v121 v122 v123 v124 v125 v126 v127 v128 v129 v130 v131 v132 v133 v134 v135 v136 v137 h => fin w' v89 v90 v91 v92 v93 v94 v95 v96 v97 v98 v99 v100 v101 v102 v103 v104 v105 v106 v107 v108 v109 v110 v111 v112 v113 v114 v115 v116 v117 v118 v119 v120 v121 v122 v123 v124 v125 v126 v127 v128 v129 v130 v131 v132 v133 v134 v135 v136 v137 h.1 (hdk.trans h.2))
        · have e : pb k n s x y = [] := by unfold pb; rw [if_neg k0, if_neg k1, if_neg k2, if_neg k3]
          have hr := hd.rd
          rw [e] at hr
          exact reg_k4 hP W q r k n s x y (bneb_ k 0 k0) (bneb_ k 1 k1) (bneb_ k 2 k2) (bneb_ k 3 k3) hS (fun v89 v90 v91 v92 v93 v94 v95 v96 v97 v98 v99 v100 v101 v102 v103 v104 v105 v106 v107 v108 v109 v110 v111 v112 v113 v114 v115 v116 v117 v118 v119 v120 v121 v122 v123 v124 v125 v126 v127 v128 v129 v130 v131 v132 v133 v134 v135 v136 v137 => fin W.drew v89 v90 v91 v92 v93 v94 v95 v96 v97 v98 v99 v100 v101 v102 v103 v104 v105 v106 v107 v108 v109 v110 v111 v112 v113 v114 v115 v116 v117 v118 v119 v120 v121 v122 v123 v124 v125 v126 v127 v128 v129 v130 v131 v132 v133 v134 v135 v136 v137 hr hdk)
end Go.Proofs.Ytffnopmadjpopab
