/- The reference's Put. -/
import Derived.Test.YtlhicojbpjdbaaaFrI
set_option linter.unusedVariables false
namespace Go.Proofs.Ytlhicojbpjdbaaa
open Go.RowKit

theorem fb_byt {k f t : Nat} {bs : List Nat} (hb : Byt bs) (hk : k < 256) (hf : f < 256) (ht : t < 256) : Byt (fb k f t bs) := by
  intro x hx
  unfold fb at hx
  simp only [List.mem_cons] at hx
  rcases hx with rfl | rfl | rfl | rfl | hx
  · omega
  · exact hk
  · exact hf
  · exact ht
  · exact hb x hx
theorem fb_length (k f t : Nat) (bs : List Nat) : (fb k f t bs).length = 4 + bs.length := by unfold fb; simp; omega

set_option maxRecDepth 100000 in
set_option maxHeartbeats 800000 in
theorem rput_any (w : World) (k f t : Nat) (v : Value) (bs : List Nat) (h : Lies w v bs) (hb : Byt bs) (hk : k < 256) (hf : f < 256) (ht : t < 256) (hl : bs.length ≤ 65536) :
    Calls Try.prog 14 #[.agg #[.int .i64 k, .int .i64 f, .int .i64 t, v]] w fun e w' => ∃ r, e = .returned r ∧ RowOut w w' r (seal' (fb k f t bs)) := by
  obtain ⟨i0, hi, hz0, hz1, hz2⟩ := info_parts Try.info5
  have H := Lib.hid h
  have HB := Lib.hid (fb_byt hb hk hf ht)
  have x1 : IntKind.u8.wrap (k : Int) = (k : Int) := by rw [IntKind.wrap_u8']; omega
  have x2 : IntKind.u8.wrap (f : Int) = (f : Int) := by rw [IntKind.wrap_u8']; omega
  have x3 : IntKind.u8.wrap (t : Int) = (t : Int) := by rw [IntKind.wrap_u8']; omega
  obtain ⟨ao, cap, rfl, _⟩ := h
  have hX := box2 w #[.int .i64 k, .int .i64 f, .int .i64 t, .slice ao bs.length cap] #[.int .u8 1, .int .u8 k, .int .u8 f, .int .u8 t] 24 5
  have HS := Lib.hid (H.out.later hX).src
  have HO : Hid (((w.alloc (.cells #[.int .i64 k, .int .i64 f, .int .i64 t, .slice ao bs.length cap] 24)).alloc (.cells #[.int .u8 1, .int .u8 k, .int .u8 f, .int .u8 t] 5)).ownsRow w.heap.size 5 1 (.slice (some ⟨w.heap.size + 1, 0, none⟩) 4 4) 4 (u8s [1, k, f, t])) := Lib.hid (by
    have := World.ownsRow_made (base := w.heap.size) (e := 5) (size := 1) (w.alloc (.cells #[.int .i64 k, .int .i64 f, .int .i64 t, .slice ao bs.length cap] 24)) #[.int .u8 1, .int .u8 k, .int .u8 f, .int .u8 t] 4 (by simp) (by unfold maxLen; omega) rfl
    refine ⟨rfl, ?_⟩
    rcases this.2 with h | ⟨g, cp, cur, e, h1, h2, h3, h4, h5, h6⟩
    · have := h.1; cases this
    · exact .inr ⟨w.heap.size + 1, 4, #[.int .u8 1, .int .u8 k, .int .u8 f, .int .u8 t], rfl, by omega, by simpa using heap_alloc_new (w.alloc (.cells #[.int .i64 k, .int .i64 f, .int .i64 t, .slice ao bs.length cap] 24)) (.cells #[.int .u8 1, .int .u8 k, .int .u8 f, .int .u8 t] 5), Nat.le_refl _, by unfold maxLen; omega, rfl, rfl⟩)
  have HX := Lib.hid hX
  clear hb hX
  go_enter Try.func14, Try.ntmps14
  go_wp2_with (at_builtin; refine wpList_append_src_own rfl (.tmp 14) (.tmp 16) 22 22 rfl w.heap.size 5 i0 (.int .u8 0) 1 1 Try.underlying22 hi hz0 hz1 hz2 rfl (by decide) _ 4 (u8s [1, k, f, t]) rfl HO.out _ bs.length (u8s bs) rfl HS.out (by unfold maxLen; omega) (by omega) (by simp; omega) ?_; intro v3 w3 hown hgr hspr; have K := Lib.hid (And.intro hown (HX.out.grown hgr (by simp; omega) (fun k hk => by simp [Act.eval, Value.ownBlock] at hk; omega))); clear hown hgr hspr)
  have hK := K.out.1
  rw [← u8s_append] at hK
  have e2 : [1, k, f, t] ++ bs = fb k f t bs := rfl
  rw [e2, ← fb_length k f t bs] at hK
  have hL := own_lies hK
  obtain ⟨va, vc, rfl⟩ := own_shape hK
  have HB3 := Lib.hid K.out.2
  have R := Lib.hid (rseal_any w3 _ _ hL HB.out (by rw [fb_length]; omega))
  clear hK hL K e2
  rw [fb_length]
  rw [fb_length] at R
  go_wp2_with fail
  refine R.out.mono ?_
  rintro e w6 ⟨r, rfl, hr⟩
  have HQ := Lib.hid (hr.later HB3.out)
  obtain ⟨ra3, rc3, rfl⟩ := own_shape hr.1
  clear hr
  go_wp2
  go_returns
  exact ⟨_, rfl, HQ.out⟩
end Go.Proofs.Ytlhicojbpjdbaaa
