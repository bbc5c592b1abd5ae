/- Quotient, rest and remainder: the answers with their rooms. -/
import Derived.Test.YtocoflojlliapaaDoorY2
import Derived.Test.YtocoflojlliapaaDoorT2
set_option linter.unusedVariables false
namespace Go.Proofs.YtocoflojlliapaaDoor
open Go.RowKit
theorem quo_f {na nb : Bool} {A1 A2 : Option Addr} {n1 c1 n2 c2 : Nat} {x y : Int} (w : World) (h1 : NumAt w na A1 n1 c1 x) (h2 : NumAt w nb A2 n2 c2 y) (l1 : n1 ≤ 1000) (l2 : n2 ≤ 1000) (hy : y ≠ 0) :
    Calls Tryd.prog 40 #[.agg #[.bool na, .slice A1 n1 c1], .agg #[.bool nb, .slice A2 n2 c2]] w fun e w' => TellsF w w' e (Int.tdiv x y) := (quo_at w h1 h2 l1 l2 hy).mono fun e w' h => h.tellsF
theorem rem_f {na nb : Bool} {A1 A2 : Option Addr} {n1 c1 n2 c2 : Nat} {x y : Int} (w : World) (h1 : NumAt w na A1 n1 c1 x) (h2 : NumAt w nb A2 n2 c2 y) (l1 : n1 ≤ 1000) (l2 : n2 ≤ 1000) (hy : y ≠ 0) :
    Calls Tryd.prog 41 #[.agg #[.bool na, .slice A1 n1 c1], .agg #[.bool nb, .slice A2 n2 c2]] w fun e w' => TellsF w w' e (Int.tmod x y) := (rem_at w h1 h2 l1 l2 hy).mono fun e w' h => h.tellsF
theorem mod_f {na nb : Bool} {A1 A2 : Option Addr} {n1 c1 n2 c2 : Nat} {x y : Int} (w : World) (h1 : NumAt w na A1 n1 c1 x) (h2 : NumAt w nb A2 n2 c2 y) (l1 : n1 ≤ 1000) (l2 : n2 ≤ 1000) (hy : y ≠ 0) :
    Calls Tryd.prog 42 #[.agg #[.bool na, .slice A1 n1 c1], .agg #[.bool nb, .slice A2 n2 c2]] w fun e w' => TellsF w w' e (Int.fmod x y) := (mod_at w h1 h2 l1 l2 hy).mono fun e w' h => h.tellsF
end Go.Proofs.YtocoflojlliapaaDoor
