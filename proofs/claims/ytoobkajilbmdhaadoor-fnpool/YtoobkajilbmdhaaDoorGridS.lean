/- Two maps that are alike. -/
import Derived.Test.YtoobkajilbmdhaaDoorGridA
import Derived.BigQuiet
namespace Go.Proofs.YtoobkajilbmdhaaDoor
open Go.RowKit

def sameL (side side' : Int) (l l' : List Int) : Bool := side == side' && l == l'
def sameGrid (side side' : Int) (l l' : List Int) : Bool := gridRight side l && gridRight side' l' && sameL side side' l l'

end Go.Proofs.YtoobkajilbmdhaaDoor
