/- DatumWithin: where the datum is heavy. -/
import Derived.Test.YtkffojipgphneaaDoorW2
import Derived.Test.YtkffojipgphneaaDoorU1
import Derived.Test.YtkffojipgphneaaDoorH1
set_option linter.unusedVariables false
set_option linter.unusedSimpArgs false
namespace Go.Proofs.YtkffojipgphneaaDoor
open Go Go.RowKit
set_option maxRecDepth 100000 in
set_option maxHeartbeats 1600000 in
theorem within_heavy (d : D) (f : F) (w : World) (hv : Val (fun k => k < w.heap.size) w d f) (hT : Lib.Utf8Tabs 0 1 w) (hh : heavyB d f = true) :
    Calls Tryd.prog 8 #[.agg #[.int .i64 d.k, .int .i32 d.c, .bool d.neg, .slice d.mA d.mag.length d.mcap, .string d.t, .slice d.lA f.len d.lcap]] w fun e w' => e = .returned (.bool true) ∧ Below w.heap.size w w' := by
  have hbW : Below w.heap.size w (w.alloc (six d f.len)) := (Below.refl _ _).alloc (Nat.le_refl _) _
  have HC := Lib.hid (heavy_any d f (w.alloc (six d f.len)) (hv.below hbW))
  rw [hh] at HC
  have HT := Utf8Tabs_below hT hbW
  go_enter Tryd.func8, Tryd.ntmps8
  go_wp2_with (first
    | (go_at_call 9; refine (HC.out).mono ?_; rintro e w1 ⟨rfl, b1⟩)
    | (go_at_call 10; refine (awake_any _ (Utf8Tabs_below HT b1)).mono ?_; rintro e w2 ⟨rfl, b2⟩))
  go_ret
  have h1 : Below w.heap.size w w1 := hbW.trans (b1.mono hbW.size)
  exact ⟨rfl, h1.trans (b2.mono h1.size)⟩
end Go.Proofs.YtkffojipgphneaaDoor
