/- What the reference's Next returns, at every text and place within it: the piece that the model's own decoder has there. -/
import Derived.Test.YtkkeemhbokpngaaDoorLA
set_option linter.unusedVariables false
namespace Go.Proofs.YtkkeemhbokpngaaDoor
open Go.RowKit

theorem eqb (a b : Int) (h : a = b) : (a == b) = true := beq_iff_eq.2 h
theorem neb (a b : Int) (h : a ≠ b) : (a == b) = false := beq_eq_false_iff_ne.2 h

def pcv (s : ByteArray) (p : Nat) : Value := .agg #[.int .i64 p, .int .i64 (wid s p), .int .i64 (rn s p)]
theorem pcv_of {s : ByteArray} {p n : Nat} {r : Int} (h : Nx s p n r) : (Ending.returned (.agg #[.int .i64 p, .int .i64 (n : Int), .int .i64 r]) : Ending) = .returned (pcv s p) := by
  unfold pcv; rw [h.1, h.2]

set_option maxRecDepth 100000 in
set_option maxHeartbeats 400000 in
theorem rnext_1 (s : ByteArray) (p : Nat) (w : World) (hs : s.size ≤ 1099511627000) (hp : p < s.size) (h : (s.get! p).toNat < 128) :
    Calls Tryd.prog 28 #[.string s, .int .i64 p] w fun e w' => e = .returned (pcv s p) ∧ Below w.heap.size w w' := by
  have E := Lib.hid (pcv_of (nx1 s p _ rfl h))
  have gb := get_at0 s p hp
  go_enter Tryd.func28, Tryd.ntmps28
  go_wp2
  refine bodyPost_ret (v := .agg #[.int .i64 p, .int .i64 1, .int .i64 (s.get! p).toNat]) (by simp [results, Tryd.results28, go_sem]) rfl ⟨E.out, ?_⟩
  exact ((Below.refl _ _).alloc (Nat.le_refl _) _)

set_option maxRecDepth 100000 in
set_option maxHeartbeats 400000 in
theorem rnext_2 (s : ByteArray) (p : Nat) (w : World) (hs : s.size ≤ 1099511627000) (hp : p < s.size) (h : (s.get! p).toNat / 32 = 6) :
    Calls Tryd.prog 28 #[.string s, .int .i64 p] w fun e w' => e = .returned (pcv s p) ∧ Below w.heap.size w w' := by
  have gb := get_at0 s p hp
  have hb : (s.get! p).toNat < 256 := UInt8.toNat_lt _
  have hx := nx2 s p _ rfl h
  obtain ⟨x, ex⟩ : ∃ x, sev s p 1 1 (((s.get! p).toNat : Int) % 32) = x := ⟨_, rfl⟩
  have c17 := fun w => several_any s p 2 (((s.get! p).toNat : Int) % 32) w (by omega) (by omega) (by omega) (by omega) (by omega) (by omega)
  rw [show (2 : Nat) - 1 = 1 from rfl, ex] at c17
  rw [ex] at hx
  have C := Lib.hid c17
  clear c17 ex
  have t6 := eqb (((s.get! p).toNat : Int) / 32) 6 (by omega)
  have t14 := neb (((s.get! p).toNat : Int) / 16) 14 (by omega)
  have t30 := neb (((s.get! p).toNat : Int) / 8) 30 (by omega)
  have h128 : ¬ (s.get! p).toNat < 128 := by omega
  clear h
  rcases hx with ⟨hx1, hx2⟩ | ⟨hx1, hx2⟩
  all_goals
    have E := Lib.hid (pcv_of hx2)
    clear hx2
    go_enter Tryd.func28, Tryd.ntmps28
    go_wp2_with fail
    refine (C.out _).mono ?_
    rintro e w' ⟨rfl, rfl⟩
    go_wp2_with fail
  · refine bodyPost_ret (v := .agg #[.int .i64 p, .int .i64 2, .int .i64 x]) (by simp [results, Tryd.results28, go_sem]) rfl ⟨E.out, ?_⟩
    exact ((Below.refl _ _).alloc (Nat.le_refl _) _)
  · refine bodyPost_ret (v := .agg #[.int .i64 p, .int .i64 1, .int .i64 65533]) (by simp [results, Tryd.results28, go_sem]) rfl ⟨E.out, ?_⟩
    exact ((Below.refl _ _).alloc (Nat.le_refl _) _)

set_option maxRecDepth 100000 in
set_option maxHeartbeats 400000 in
theorem rnext_3 (s : ByteArray) (p : Nat) (w : World) (hs : s.size ≤ 1099511627000) (hp : p < s.size) (h : (s.get! p).toNat / 16 = 14) :
    Calls Tryd.prog 28 #[.string s, .int .i64 p] w fun e w' => e = .returned (pcv s p) ∧ Below w.heap.size w w' := by
  have gb := get_at0 s p hp
  have hb : (s.get! p).toNat < 256 := UInt8.toNat_lt _
  have hx := nx3 s p _ rfl h
  obtain ⟨x, ex⟩ : ∃ x, sev s p 2 1 (((s.get! p).toNat : Int) % 16) = x := ⟨_, rfl⟩
  have c17 := fun w => several_any s p 3 (((s.get! p).toNat : Int) % 16) w (by omega) (by omega) (by omega) (by omega) (by omega) (by omega)
  rw [show (3 : Nat) - 1 = 2 from rfl, ex] at c17
  rw [ex] at hx
  have C := Lib.hid c17
  clear c17 ex
  have t6 := neb (((s.get! p).toNat : Int) / 32) 6 (by omega)
  have t14 := eqb (((s.get! p).toNat : Int) / 16) 14 (by omega)
  have t30 := neb (((s.get! p).toNat : Int) / 8) 30 (by omega)
  have h128 : ¬ (s.get! p).toNat < 128 := by omega
  clear h
  rcases hx with ⟨hx1, hx1', hx2⟩ | ⟨hx1, hx2⟩ | ⟨hx1, hx2⟩ | ⟨hx1, hx1', hx2⟩
  all_goals
    have E := Lib.hid (pcv_of hx2)
    clear hx2
    go_enter Tryd.func28, Tryd.ntmps28
    go_wp2_with fail
    refine (C.out _).mono ?_
    rintro e w' ⟨rfl, rfl⟩
    go_wp2_with fail
  · refine bodyPost_ret (v := .agg #[.int .i64 p, .int .i64 3, .int .i64 x]) (by simp [results, Tryd.results28, go_sem]) rfl ⟨E.out, ?_⟩
    exact ((Below.refl _ _).alloc (Nat.le_refl _) _)
  · refine bodyPost_ret (v := .agg #[.int .i64 p, .int .i64 3, .int .i64 x]) (by simp [results, Tryd.results28, go_sem]) rfl ⟨E.out, ?_⟩
    exact ((Below.refl _ _).alloc (Nat.le_refl _) _)
  · refine bodyPost_ret (v := .agg #[.int .i64 p, .int .i64 1, .int .i64 65533]) (by simp [results, Tryd.results28, go_sem]) rfl ⟨E.out, ?_⟩
    exact ((Below.refl _ _).alloc (Nat.le_refl _) _)
  · refine bodyPost_ret (v := .agg #[.int .i64 p, .int .i64 1, .int .i64 65533]) (by simp [results, Tryd.results28, go_sem]) rfl ⟨E.out, ?_⟩
    exact ((Below.refl _ _).alloc (Nat.le_refl _) _)

set_option maxRecDepth 100000 in
set_option maxHeartbeats 400000 in
theorem rnext_4 (s : ByteArray) (p : Nat) (w : World) (hs : s.size ≤ 1099511627000) (hp : p < s.size) (h : (s.get! p).toNat / 8 = 30) :
    Calls Tryd.prog 28 #[.string s, .int .i64 p] w fun e w' => e = .returned (pcv s p) ∧ Below w.heap.size w w' := by
  have gb := get_at0 s p hp
  have hb : (s.get! p).toNat < 256 := UInt8.toNat_lt _
  have hx := nx4 s p _ rfl h
  obtain ⟨x, ex⟩ : ∃ x, sev s p 3 1 (((s.get! p).toNat : Int) % 8) = x := ⟨_, rfl⟩
  have c17 := fun w => several_any s p 4 (((s.get! p).toNat : Int) % 8) w (by omega) (by omega) (by omega) (by omega) (by omega) (by omega)
  rw [show (4 : Nat) - 1 = 3 from rfl, ex] at c17
  rw [ex] at hx
  have C := Lib.hid c17
  clear c17 ex
  have t6 := neb (((s.get! p).toNat : Int) / 32) 6 (by omega)
  have t14 := neb (((s.get! p).toNat : Int) / 16) 14 (by omega)
  have t30 := eqb (((s.get! p).toNat : Int) / 8) 30 (by omega)
  have h128 : ¬ (s.get! p).toNat < 128 := by omega
  clear h
  rcases hx with ⟨hx1, hx1', hx2⟩ | ⟨hx1, hx2⟩ | ⟨hx1, hx2⟩
  all_goals
    have E := Lib.hid (pcv_of hx2)
    clear hx2
    go_enter Tryd.func28, Tryd.ntmps28
    go_wp2_with fail
    refine (C.out _).mono ?_
    rintro e w' ⟨rfl, rfl⟩
    go_wp2_with fail
  · refine bodyPost_ret (v := .agg #[.int .i64 p, .int .i64 4, .int .i64 x]) (by simp [results, Tryd.results28, go_sem]) rfl ⟨E.out, ?_⟩
    exact ((Below.refl _ _).alloc (Nat.le_refl _) _)
  · refine bodyPost_ret (v := .agg #[.int .i64 p, .int .i64 1, .int .i64 65533]) (by simp [results, Tryd.results28, go_sem]) rfl ⟨E.out, ?_⟩
    exact ((Below.refl _ _).alloc (Nat.le_refl _) _)
  · refine bodyPost_ret (v := .agg #[.int .i64 p, .int .i64 1, .int .i64 65533]) (by simp [results, Tryd.results28, go_sem]) rfl ⟨E.out, ?_⟩
    exact ((Below.refl _ _).alloc (Nat.le_refl _) _)

set_option maxRecDepth 100000 in
set_option maxHeartbeats 400000 in
theorem rnext_0 (s : ByteArray) (p : Nat) (w : World) (hs : s.size ≤ 1099511627000) (hp : p < s.size) (h0 : 128 ≤ (s.get! p).toNat) (h1 : (s.get! p).toNat / 32 ≠ 6) (h2 : (s.get! p).toNat / 16 ≠ 14) (h3 : (s.get! p).toNat / 8 ≠ 30) :
    Calls Tryd.prog 28 #[.string s, .int .i64 p] w fun e w' => e = .returned (pcv s p) ∧ Below w.heap.size w w' := by
  have gb := get_at0 s p hp
  have hb : (s.get! p).toNat < 256 := UInt8.toNat_lt _
  have E := Lib.hid (pcv_of (nx0 s p _ rfl h0 h1 h2 h3))
  have t6 := neb (((s.get! p).toNat : Int) / 32) 6 (by omega)
  have t14 := neb (((s.get! p).toNat : Int) / 16) 14 (by omega)
  have t30 := neb (((s.get! p).toNat : Int) / 8) 30 (by omega)
  clear h1 h2 h3
  go_enter Tryd.func28, Tryd.ntmps28
  go_wp2_with fail
  refine bodyPost_ret (v := .agg #[.int .i64 p, .int .i64 1, .int .i64 65533]) (by simp [results, Tryd.results28, go_sem]) rfl ⟨E.out, ?_⟩
  exact ((Below.refl _ _).alloc (Nat.le_refl _) _)

theorem rnext_any (s : ByteArray) (p : Nat) (w : World) (hs : s.size ≤ 1099511627000) (hp : p < s.size) :
    Calls Tryd.prog 28 #[.string s, .int .i64 p] w fun e w' => e = .returned (pcv s p) ∧ Below w.heap.size w w' := by
  by_cases h0 : (s.get! p).toNat < 128
  · exact rnext_1 s p w hs hp h0
  · by_cases h1 : (s.get! p).toNat / 32 = 6
    · exact rnext_2 s p w hs hp h1
    · by_cases h2 : (s.get! p).toNat / 16 = 14
      · exact rnext_3 s p w hs hp h2
      · by_cases h3 : (s.get! p).toNat / 8 = 30
        · exact rnext_4 s p w hs hp h3
        · exact rnext_0 s p w hs hp (by omega) h1 h2 h3
end Go.Proofs.YtkkeemhbokpngaaDoor
