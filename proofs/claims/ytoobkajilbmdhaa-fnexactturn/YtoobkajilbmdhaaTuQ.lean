/- Turn, model's and program's, by one answer. -/
import Derived.Test.YtoobkajilbmdhaaTuN
import Derived.Test.YtoobkajilbmdhaaTuP
namespace Go.Proofs.Ytoobkajilbmdhaa
open Go.RowKit
set_option linter.unusedVariables false

/-- What Turn answers: code, side, row. -/
def turnO (side : Int) (l : List Int) (how : Int) : Int × Int × List Int := (turnCode side l how, turnSide side l how, turnTiles side l how)
theorem turnO_len (side : Int) (l : List Int) (how : Int) : (turnO side l how).2.2.length ≤ 64 := turnTiles_len side l how
theorem mTurnO (side how : Int) (A : Option Addr) (c : Nat) (l : List Int) (w : World) (h : RI w w.heap.size A l) (hl : l.length ≤ 1000000000) :
    Calls Try.prog 12 #[.agg #[.int .i64 side, .slice A l.length c], .int .i64 how] w fun e w' => GOut w w' (turnO side l how).2.1 (turnO side l how).2.2 (turnO side l how).1 e := mTurn_any side how A c l w h hl
theorem pTurnO (side how : Int) (A : Option Addr) (c : Nat) (l : List Int) (w : World) (h : RI w w.heap.size A l) (hl : l.length ≤ 1000000000) :
    Calls Try.prog 14 #[.agg #[.int .i64 side, .slice A l.length c], .int .i64 how] w fun e w' => GOut w w' (turnO side l how).2.1 (turnO side l how).2.2 (turnO side l how).1 e := pTurn_any side how A c l w h hl
end Go.Proofs.Ytoobkajilbmdhaa
