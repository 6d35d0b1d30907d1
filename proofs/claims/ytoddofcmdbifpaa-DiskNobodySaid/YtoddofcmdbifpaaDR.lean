/- The law of a disk that is none. -/
import Derived.Test.YtoddofcmdbifpaaDQ
set_option linter.unusedVariables false
set_option linter.unusedSimpArgs false
set_option maxRecDepth 100000
namespace Go.Proofs.Ytoddofcmdbifpaa
open Go.RowKit Go.WideMaps Go.Maps

theorem bs34n (W : World) (n : Int) : (Instr.buildSlice 34 1 #[(0, .int .i64 n)]).run Try.prog W = .ok (.slice (some ⟨W.heap.size, 0, none⟩) 1 1) (W.alloc (.cells #[.int .i64 n] 3)) := by go_simp
theorem read_nil2 (w : World) (s : ByteArray) : Calls Try.prog 15 #[.pointer none, .string s] w fun e w' => e = .returned (.tuple #[.slice none 0 0, .int .i64 1]) ∧ Below w.heap.size w w' := read_nil w s
set_option maxHeartbeats 6400000 in
theorem nobody_law (w : World) (s : ByteArray) (n : Int) : Calls Try.prog 5 #[.string s, .int .i64 n] w fun e w' => e = .returned (.bool true) ∧ Below w.heap.size w w' := by
  have AR := Lib.hid (arm_nil w n)
  have b6 := bs34n w n
  have V := vstep w (.cells #[.int .i64 n] 3)
  have BO := Lib.hid (boot_nil (w.alloc (.cells #[.int .i64 n] 3)) (.slice (some ⟨w.heap.size, 0, none⟩) 1 1))
  have RD := Lib.hid (read_nil (w.alloc (.cells #[.int .i64 n] 3)) s)
  have B1 := Lib.hid V
  clear V
  go_enter Try.func5, Try.ntmps5
  go_wp2_with fail
  refine AR.out.mono ?_
  rintro e w1 ⟨rfl, rfl⟩
  go_wp2_with fail
  refine BO.out.mono ?_
  rintro e w1 ⟨rfl, rfl⟩
  go_wp2_with fail
  refine RD.out.mono ?_
  rintro e w2 ⟨rfl, hb⟩
  have B2 := Lib.hid (B1.out.trans (hb.mono B1.out.size))
  have X := Lib.hid (create_nil w2 s)
  clear hb b6 AR BO RD B1
  go_wp2_with fail
  refine X.out.mono ?_
  rintro e w3 ⟨rfl, hb⟩
  have B3 := Lib.hid (B2.out.trans (hb.mono B2.out.size))
  have X := Lib.hid (append_nil w3 s (.slice none 0 0))
  clear hb B2
  go_wp2_with fail
  refine X.out.mono ?_
  rintro e w4 ⟨rfl, hb⟩
  have B4 := Lib.hid (B3.out.trans (hb.mono B3.out.size))
  have X := Lib.hid (sync_nil w4 s)
  clear hb B3
  go_wp2_with fail
  refine X.out.mono ?_
  rintro e w5 ⟨rfl, hb⟩
  have B5 := Lib.hid (B4.out.trans (hb.mono B4.out.size))
  have X := Lib.hid (cut_nil w5 s n)
  clear hb B4
  go_wp2_with fail
  refine X.out.mono ?_
  rintro e w6 ⟨rfl, hb⟩
  have B6 := Lib.hid (B5.out.trans (hb.mono B5.out.size))
  have X := Lib.hid (rename_nil w6 s s)
  clear hb B5
  go_wp2_with fail
  refine X.out.mono ?_
  rintro e w7 ⟨rfl, hb⟩
  have B7 := Lib.hid (B6.out.trans (hb.mono B6.out.size))
  have X := Lib.hid (remove_nil w7 s)
  clear hb B6
  go_wp2_with fail
  refine X.out.mono ?_
  rintro e w8 ⟨rfl, hb⟩
  have B8 := Lib.hid (B7.out.trans (hb.mono B7.out.size))
  have X := Lib.hid (names_nil w8)
  clear hb B7
  go_wp2_with fail
  refine X.out.mono ?_
  rintro e w9 ⟨rfl, rfl⟩
  have X := Lib.hid (sure_nil w8 s)
  go_wp2_with fail
  refine X.out.mono ?_
  rintro e w9 ⟨rfl, rfl⟩
  have X := Lib.hid (used_nil w8)
  go_wp2_with fail
  refine X.out.mono ?_
  rintro e w9 ⟨rfl, rfl⟩
  have X := Lib.hid (free_nil w8)
  go_wp2_with fail
  refine X.out.mono ?_
  rintro e w9 ⟨rfl, rfl⟩
  have X := Lib.hid (down_nil w8)
  go_wp2_with fail
  refine X.out.mono ?_
  rintro e w9 ⟨rfl, rfl⟩
  have X := Lib.hid (awake_any w8)
  go_wp2_with fail
  refine X.out.mono ?_
  rintro e w9 ⟨rfl, hb⟩
  have B9 := Lib.hid (B8.out.trans (hb.mono B8.out.size))
  clear hb X
  go_wp2
  go_returns
  exact ⟨rfl, B9.out⟩
end Go.Proofs.Ytoddofcmdbifpaa
