/- Two maps that are alike. -/
import Derived.Test.YtmjbefjkkncjlaaGridA
import Derived.BigQuiet
namespace Go.Proofs.Ytmjbefjkkncjlaa
open Go.RowKit

def sameL (side side' : Int) (l l' : List Int) : Bool := side == side' && l == l'
def sameGrid (side side' : Int) (l l' : List Int) : Bool := gridRight side l && gridRight side' l' && sameL side side' l l'

end Go.Proofs.Ytmjbefjkkncjlaa
