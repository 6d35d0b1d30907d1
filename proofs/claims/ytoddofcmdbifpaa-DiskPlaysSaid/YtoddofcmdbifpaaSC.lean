/- The reference's disk: Do, what is done. Made by genrz10.py. -/
import Derived.Test.YtoddofcmdbifpaaSA
set_option linter.unusedVariables false
set_option linter.unusedSimpArgs false
set_option maxRecDepth 100000
namespace Go.Proofs.Ytoddofcmdbifpaa
open Go.RowKit Go.WideMaps Go.Maps

structure DJ (w W : World) (v : Value) (room lasts : Int) (dn : Bool) (b : Nat) (f : Fl) : Prop where
  d : D0 w W v room lasts dn
  lo : w.heap.size + 2 ≤ b
  g : FR W b f
  lies : LiesK encB 1 W (.slice f.a f.b.length f.c) f.b
  own : f.b ≠ [] → ∀ j, (Value.slice f.a f.b.length f.c).ownBlock = some j → b < j
theorem DI.dj {w W : World} {v : Value} {room lasts : Int} {dn : Bool} {b : Nat} {f : Fl} (h : DI w W v room lasts dn b f) : DJ w W v room lasts dn b f := ⟨h.d, h.lo, h.g, h.lies, fun _ j q => by have := (h.row.lt j q).1; omega⟩
theorem DJ.blt {w W : World} {v : Value} {room lasts : Int} {dn : Bool} {b : Nat} {f : Fl} (h : DJ w W v room lasts dn b f) : b < W.heap.size := lt_of_block h.g
theorem DJ.d0 {w W W' : World} {v : Value} {room lasts : Int} {dn : Bool} {b : Nat} {f : Fl} (h : DJ w W v room lasts dn b f) {P : Nat → Prop} (hf : Far P W W') (hp : ∀ k, P k → b ≤ k) : D0 w W' v room lasts dn := by
  have hlo := h.lo
  exact ⟨h.d.g6.far hf (fun q => by have := hp _ q; omega), h.d.g12.far hf (fun q => by have := hp _ q; omega), h.d.bel.trans (hf.below h.d.bel.size (fun k q => by have := hp _ q; omega))⟩
theorem DJ.step {w W W' : World} {v : Value} {room lasts : Int} {dn : Bool} {b : Nat} {f : Fl} (h : DJ w W v room lasts dn b f) (hb : Below W.heap.size W W') : DJ w W' v room lasts dn b f :=
  ⟨h.d.step hb, h.lo, h.g.far (P := fun _ => False) (Far.of_below hb) (fun q => q), h.lies.step hb, h.own⟩
/-- Only the box of another disk turned. -/
theorem DJ.far {w W W' : World} {v : Value} {room lasts : Int} {dn : Bool} {b : Nat} {f : Fl} (h : DJ w W v room lasts dn b f) {bx : Nat} (hf : Far (fun k => k = bx) W W') (hbx : b < bx) (hn : f.b ≠ [] → ∀ j, (Value.slice f.a f.b.length f.c).ownBlock = some j → j ≠ bx) : DJ w W' v room lasts dn b f :=
  ⟨h.d0 hf (fun k q => by omega), h.lo, h.g.far hf (fun q => by omega), h.lies.far' hf (fun hne j q r => hn hne j q r), h.own⟩
theorem DJ.set2 {w W : World} {v : Value} {room lasts : Int} {dn : Bool} {b : Nat} {f : Fl} (h : DJ w W v room lasts dn b f) (s : Int) : DJ w (W.setCell ⟨b, 2, none⟩ (.int .i64 s)) v room lasts dn b ⟨f.n, f.a, f.c, f.b, s⟩ :=
  ⟨h.d0 (far_set W b 2 _) (fun k q => by omega), h.lo, row_setC (j := 2) (u := .int .i64 s) h.g, h.lies.far' (far_set W b 2 _) (fun hne j q r => by have := h.own hne j q; omega), h.own⟩
theorem DJ.set0 {w W : World} {v : Value} {room lasts : Int} {dn : Bool} {b : Nat} {f : Fl} (h : DJ w W v room lasts dn b f) (s : ByteArray) : DJ w (W.setCell ⟨b, 0, none⟩ (.string s)) v room lasts dn b ⟨s, f.a, f.c, f.b, f.s⟩ :=
  ⟨h.d0 (far_set W b 0 _) (fun k q => by omega), h.lo, row_setC (j := 0) (u := .string s) h.g, h.lies.far' (far_set W b 0 _) (fun hne j q r => by have := h.own hne j q; omega), h.own⟩
theorem DJ.set1 {w W : World} {v : Value} {room lasts : Int} {dn : Bool} {b : Nat} {f : Fl} (h : DJ w W v room lasts dn b f) (n : Nat) (hn : n ≤ f.b.length) : DJ w (W.setCell ⟨b, 1, none⟩ (.slice f.a n f.c)) v room lasts dn b ⟨f.n, f.a, f.c, f.b.take n, f.s⟩ := by
  have e : (f.b.take n).length = n := by rw [List.length_take]; omega
  refine ⟨h.d0 (far_set W b 1 _) (fun k q => by omega), h.lo, ?_, ?_, fun hne j q => ?_⟩
  · show FR _ b ⟨f.n, f.a, f.c, f.b.take n, f.s⟩
    unfold FR
    rw [e]
    exact row_setC (j := 1) (u := .slice f.a n f.c) h.g
  · have := lies_take (h.lies.far' (far_set W b 1 (.slice f.a n f.c)) (fun hne j q r => by have := h.own hne j q; omega)) n hn
    exact this
  · have hb : f.b ≠ [] := fun q => hne (by show f.b.take n = []; rw [q]; simp)
    exact h.own hb j (by rw [← q]; cases f.a <;> rfl)
theorem far_set4 (w : World) (b : Nat) (x y z t : Value) : Far (fun k => k = b) w (sets4 w b x y z t) := by
  unfold sets4
  exact (((far_set w b 0 x).trans (far_set _ b 1 y) (fun k _ q => q)).trans (far_set _ b 2 z) (fun k _ q => q)).trans (far_set _ b 3 t) (fun k _ q => q)
theorem DJ.fin {w W : World} {v : Value} {room lasts : Int} {dn : Bool} {b : Nat} {f : Fl} (h : DJ w W v room lasts dn b f) (x y z t : Value) : LiesK encB 1 (sets4 W (w.heap.size + 1) x y z t) (.slice f.a f.b.length f.c) f.b :=
  h.lies.far' (far_set4 W (w.heap.size + 1) x y z t) (fun hne j q r => by have := h.own hne j q; have := h.lo; omega)
end Go.Proofs.Ytoddofcmdbifpaa
