/- Two maps that are alike. -/
import Derived.Test.YtphkceiafehidaaGridA
import Derived.BigQuiet
namespace Go.Proofs.Ytphkceiafehidaa
open Go.RowKit

def sameL (side side' : Int) (l l' : List Int) : Bool := side == side' && l == l'
def sameGrid (side side' : Int) (l l' : List Int) : Bool := gridRight side l && gridRight side' l' && sameL side side' l l'

end Go.Proofs.Ytphkceiafehidaa
