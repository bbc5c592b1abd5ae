/- WHAT EVERY ROW OF THIS PACKAGE's LAWS ASKS: the tables that it lists, a world that holds them, and the walk's end. -/
import Derived.Test.YtocoflojlliapaaDoorCards
import Derived.Test.YtocoflojlliapaaDoorTie
import Derived.Test.YtocoflojlliapaaDoorG2
import Derived.WalkKit
import Derived.ProofKit
import Derived.OpenShut
import Derived.Deep.DeepHandedRow
import Derived.Lib.LaidTab
import Derived.MakeChecks
import Derived.Stop.LaidErr
import Derived.Lay
set_option linter.unusedVariables false
namespace Go.Proofs.YtocoflojlliapaaDoor
open Go.ChangeShapes Go.WideShapes Go.ChangeAt Go.RowKit
theorem own : ownKnob Tryd.prog.godebug = none := by kernel_rfl
theorem gTab : Tryd.prog.globalNamed "internal/strconv.uint64pow10" = some 1 := by kernel_rfl
theorem gTabType : (Tryd.prog.globals[1]?).map (·.type) = some 125 := by kernel_rfl
theorem cells125 : Tryd.prog.cellsOf 125 = 20 := by kernel_rfl
theorem tabRow : (Rows.laid_internal_strconv_uint64pow10 : DataW Unit) = Lib.tabData .u64 Lib.pow10Tab := by kernel_rfl
def laid0 : List (String × DataW Unit) := [("math/bits.deBruijn32tab", Rows.laid_math_bits_deBruijn32tab), ("math/bits.deBruijn64tab", Rows.laid_math_bits_deBruijn64tab), ("internal/strconv.uint64pow10", Rows.laid_internal_strconv_uint64pow10)]
theorem laid0_plain (W : World) : laidMetH Tryd.prog laid0 W = laidMet Tryd.prog laid0 W := Go.MakeChecks.laidMetH_plain _ _ _ (by kernel_rfl)
theorem tab_of {W : World} (h : laidMetH Tryd.prog laid0 W) : Tab W := by
  rw [laid0_plain] at h
  have h2 : laidMet Tryd.prog [("internal/strconv.uint64pow10", Lib.tabData .u64 Lib.pow10Tab)] W := tabRow ▸ laidMet.tail (laidMet.tail h)
  exact Lib.tabIs_of_head (e := 70) (rest := []) gTab gTabType (by kernel_rfl) (by kernel_rfl) (by kernel_rfl) cells125 h2
/-- a world for the witness: the settled one, the listed tables laid -/
noncomputable def laidWorld (os : Os) : World := World.laidAll Tryd.prog os laid0
theorem laidWorld_os (os : Os) : (laidWorld os).os = os := World.laidAll_os _ _ _
end Go.Proofs.YtocoflojlliapaaDoor
